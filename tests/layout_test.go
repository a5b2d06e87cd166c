package tests

import (
	"bytes"
	"go/format"
	"os"
	"path/filepath"
	"testing"
)

// TestLayout checks that every Go file of the project has gofmt's layout.
func TestLayout(t *testing.T) {
	for _, pattern := range []string{"../impl/*.go", "*.go"} {
		files, err := filepath.Glob(pattern)
		if err != nil || len(files) == 0 {
			t.Fatalf("%s: %d files, %v", pattern, len(files), err)
		}
		for _, file := range files {
			source, err := os.ReadFile(file)
			if err != nil {
				t.Fatal(err)
			}
			want, err := format.Source(source)
			if err != nil || !bytes.Equal(source, want) {
				t.Errorf("%s is not in gofmt's layout (%v)", file, err)
			}
		}
	}
}
