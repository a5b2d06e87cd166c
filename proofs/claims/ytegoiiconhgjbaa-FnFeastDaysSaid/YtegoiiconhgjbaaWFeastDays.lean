/- The walk of the law FnFeastDays, in pieces. -/
import Derived.Test.YtegoiiconhgjbaaFeaT
import Derived.Deep.DeepCutAuto
import Derived.Deep.CutBlock
namespace Go.Proofs.Ytegoiiconhgjbaa.Fea
open Go.RowKit
open Go.Proofs.Ytegoiiconhgjbaa.Sets (L)
attribute [local go_sem high] run_max_m run_min_m

/-- The piece of some code that branches on a slot. -/
def condAt (t : Nat) : Code → Option Code
  | .cond (.tmp k) a b => if k = t then some (.cond (.tmp k) a b) else match condAt t a with
    | some c => some c
    | none => condAt t b
  | .cond _ a b => match condAt t a with
    | some c => some c
    | none => condAt t b
  | .seq a b => match condAt t a with
    | some c => some c
    | none => condAt t b
  | .block _ c => condAt t c
  | .loop c => condAt t c
  | .scope c => condAt t c
  | _ => none
/-- The first block of some code. -/
def blockAt : Code → Option Code
  | .block k c => some (.block k c)
  | .cond _ a b => match blockAt a with
    | some c => some c
    | none => blockAt b
  | .seq a b => match blockAt a with
    | some c => some c
    | none => blockAt b
  | .scope c => blockAt c
  | _ => none
/-- The region with a number. -/
def regAt (t : Nat) : Code → Option Code
  | .region k os b => if k = t then some (.region k os b) else none
  | .cond _ a b => match regAt t a with
    | some c => some c
    | none => regAt t b
  | .seq a b => match regAt t a with
    | some c => some c
    | none => regAt t b
  | .block _ c => regAt t c
  | .loop c => regAt t c
  | .scope c => regAt t c
  | _ => none
noncomputable def piece0 : Code := ((Try.f5.body.bind (regAt 20))).getD .skip
noncomputable def piece1 : Code := (Try.f5.body.bind (condAt 133)).getD .skip
noncomputable def piece2 : Code := (Try.f5.body.bind (condAt 182)).getD .skip
noncomputable def piece3 : Code := (Try.f5.body.bind blockAt).getD .skip

set_option maxRecDepth 100000 in
set_option maxHeartbeats 8000000 in
theorem fd_piece1 {AG : Option Addr} {N : Nat} {V : L} {W w : World} {K : Act → World → Prop} {Q : Exit → Act → World → Prop} {a1 c1 c3 d m n x1 x3 : Int} 
    {v0 v1 v2 v3 v4 v5 v6 v7 v8 v9 v10 v11 v13 v16 v17 v18 v23 v24 v25 v26 v27 v28 v29 v30 v31 v32 v33 v34 v35 v36 v37 v38 v39 v40 v41 v42 v43 v44 v45 v46 v47 v48 v49 v50 v51 v52 v53 v54 v55 v56 v57 v58 v59 v60 v61 v62 v63 v64 v65 v66 v67 v68 v69 v70 v71 v72 v73 v74 v75 v76 v77 v78 v79 v80 v81 v82 v83 v84 v85 v86 v87 v88 v89 v90 v91 v92 v93 v94 v95 v96 v97 v98 v99 v100 v101 v102 v103 v104 v105 v106 v107 v108 v109 v110 v111 v112 v113 v114 v115 v116 v117 v118 v119 v120 v121 v122 v123 v124 v125 v126 v127 v128 v129 v130 v131 v132 v134 v135 v136 v137 v138 v139 v140 v141 v142 v143 v144 v145 v146 v147 v148 v149 v150 v151 v152 v153 v154 v155 v156 v157 v158 v159 v160 v161 v162 v163 v164 v165 v166 v167 v168 v169 v170 v171 v172 v173 v174 v175 v176 v177 v178 v179 v180 v181 v182 v183 v184 v185 v186 v187 v188 v189 v190 v191 v192 v193 v194 v195 v196 v197 v198 v199 v200 v201 v202 v203 v204 v205 v206 v207 v208 v209 v210 v211 v212 v213 v214 v215 v216 v217 v218 v219 v220 v221 v222 v223 v224 v225 v226 v227 v228 v229 v230 v231 v232 v233 v234 v235 v236 v237 v238 v239 v240 v241 v242 v243 v244 v245 v246 v247 v248 v249 v250 v251 v252 v253 v254 v255 v256 v257 v258 v259 v260 v261 v262 v263 v264 v265 v266 v267 v268 v269 v270 v271 v272 : Value} (m0 : -1 ≤ m) (m1 : m ≤ 730500) (HN : Hid (NearAns n x1 a1 c1)) (HX : Hid (NextAns m d x3 c3)) (RG : Sets.Rd w AG N V) (bel : Below W.heap.size W w)
    (hK : ∀ (u2 u26 u27 u134 u135 u136 u137 u138 u139 u140 u141 u142 u143 u144 u145 u146 u147 u148 u149 u150 u151 u152 u153 u154 u155 u156 u157 u158 u159 u160 u161 u162 u163 u164 u165 u166 u167 u168 : Value) (w' : World), Sets.Rd w' AG N V → Below W.heap.size W w' → K ⟨#[v0, v1, u2, v3, v4, v5, v6, v7, v8, v9, v10, v11, .int .i64 n, v13, .int .i64 a1, .int .i64 c1, v16, v17, v18, .int .i64 m, .int .i64 d, .int .i64 x3, .int .i64 c3, v23, v24, v25, u26, u27, v28, v29, v30, v31, v32, v33, v34, v35, v36, v37, v38, v39, v40, v41, v42, v43, v44, v45, v46, v47, v48, v49, v50, v51, v52, v53, v54, v55, v56, v57, v58, v59, v60, v61, v62, v63, v64, v65, v66, v67, v68, v69, v70, v71, v72, v73, v74, v75, v76, v77, v78, v79, v80, v81, v82, v83, v84, v85, v86, v87, v88, v89, v90, v91, v92, v93, v94, v95, v96, v97, v98, v99, v100, v101, v102, v103, v104, v105, v106, v107, v108, v109, v110, v111, v112, v113, v114, v115, v116, v117, v118, v119, v120, v121, v122, v123, v124, v125, v126, v127, v128, v129, v130, v131, v132, .bool (c3 == 0), u134, u135, u136, u137, u138, u139, u140, u141, u142, u143, u144, u145, u146, u147, u148, u149, u150, u151, u152, u153, u154, u155, u156, u157, u158, u159, u160, u161, u162, u163, u164, u165, u166, u167, u168, v169, v170, v171, v172, v173, v174, v175, v176, v177, v178, v179, v180, v181, v182, v183, v184, v185, v186, v187, v188, v189, v190, v191, v192, v193, v194, v195, v196, v197, v198, v199, v200, v201, v202, v203, v204, v205, v206, v207, v208, v209, v210, v211, v212, v213, v214, v215, v216, v217, v218, v219, v220, v221, v222, v223, v224, v225, v226, v227, v228, v229, v230, v231, v232, v233, v234, v235, v236, v237, v238, v239, v240, v241, v242, v243, v244, v245, v246, v247, v248, v249, v250, v251, v252, v253, v254, v255, v256, v257, v258, v259, v260, v261, v262, v263, v264, v265, v266, v267, v268, v269, v270, v271, v272], []⟩ w') :
    Code.wp Try.prog piece1 (Exit.then K Q) ⟨#[v0, v1, v2, v3, v4, v5, v6, v7, v8, v9, v10, v11, .int .i64 n, v13, .int .i64 a1, .int .i64 c1, v16, v17, v18, .int .i64 m, .int .i64 d, .int .i64 x3, .int .i64 c3, v23, v24, v25, v26, v27, v28, v29, v30, v31, v32, v33, v34, v35, v36, v37, v38, v39, v40, v41, v42, v43, v44, v45, v46, v47, v48, v49, v50, v51, v52, v53, v54, v55, v56, v57, v58, v59, v60, v61, v62, v63, v64, v65, v66, v67, v68, v69, v70, v71, v72, v73, v74, v75, v76, v77, v78, v79, v80, v81, v82, v83, v84, v85, v86, v87, v88, v89, v90, v91, v92, v93, v94, v95, v96, v97, v98, v99, v100, v101, v102, v103, v104, v105, v106, v107, v108, v109, v110, v111, v112, v113, v114, v115, v116, v117, v118, v119, v120, v121, v122, v123, v124, v125, v126, v127, v128, v129, v130, v131, v132, .bool (c3 == 0), v134, v135, v136, v137, v138, v139, v140, v141, v142, v143, v144, v145, v146, v147, v148, v149, v150, v151, v152, v153, v154, v155, v156, v157, v158, v159, v160, v161, v162, v163, v164, v165, v166, v167, v168, v169, v170, v171, v172, v173, v174, v175, v176, v177, v178, v179, v180, v181, v182, v183, v184, v185, v186, v187, v188, v189, v190, v191, v192, v193, v194, v195, v196, v197, v198, v199, v200, v201, v202, v203, v204, v205, v206, v207, v208, v209, v210, v211, v212, v213, v214, v215, v216, v217, v218, v219, v220, v221, v222, v223, v224, v225, v226, v227, v228, v229, v230, v231, v232, v233, v234, v235, v236, v237, v238, v239, v240, v241, v242, v243, v244, v245, v246, v247, v248, v249, v250, v251, v252, v253, v254, v255, v256, v257, v258, v259, v260, v261, v262, v263, v264, v265, v266, v267, v268, v269, v270, v271, v272], []⟩ w := by
  conv => arg 2; whnf
  rcases HX.out with ⟨m2, m3, rfl, hN⟩ | ⟨-, -, rfl, rfl, rfl, -⟩ | ⟨-, rfl, rfl, rfl⟩
  · obtain ⟨q1, q2, ⟨tl, q3⟩, q4⟩ := hN
    have HNx : Hid (NextIs m d x3) := ⟨q1, q2, ⟨tl, q3⟩, q4⟩
    have hx : x3 ∈ fon d := by rw [q3]; exact List.mem_cons_self ..
    have hlen := fon_len d
    have O := Lib.hid (impl_on_yes d ⟨by omega, q2⟩)
    clear q3 q4
    generalize fon d = T at O hx hlen
    have HXM := Lib.hid hx
    clear hx
    go_wp2_with fail
    refine (O.out _).mono ?_
    rintro e w5 ⟨A3, c3, rfl, R3, hb⟩
    have R5 := RG.below hb
    have b5 := bel.trans (hb.mono bel.size)
    clear hb
    go_wp2_with fail
    refine (laws_hasInt A3 _ c3 T x3 (by omega) HXM.out _ R3.rd).mono ?_
    rintro e w6 ⟨rfl, rfl⟩
    clear O HXM
    go_upto_region 18 with (fail)
    rcases HN.out with ⟨n2, n3, rfl, hB⟩ | ⟨-, rfl, rfl, rfl⟩
    · obtain ⟨A0, A1⟩ := near_bd n2 n3 hB
      by_cases hnm : n = m
      · have hmx := near_next n2 n3 hB (hnm ▸ HNx.out)
        obtain ⟨M, hM⟩ : ∃ M, max a1 (-a1) = M := ⟨_, rfl⟩
        rw [hM] at hmx
        have e1 : (n == m) = true := by simpa using hnm
        have hmx2 : M ≤ d - m := by omega
        clear hB HNx hmx hnm
        go_wp2_with fail
        exact hK _ _ _ _ _ _ _ _ _ _ _ _ _ _ _ _ _ _ _ _ _ _ _ _ _ _ _ _ _ _ _ _ _ _ _ _ _ _ _ R5 b5
      · have e1 : (n == m) = false := by simpa using hnm
        clear hB HNx hnm
        go_wp2_with fail
        exact hK _ _ _ _ _ _ _ _ _ _ _ _ _ _ _ _ _ _ _ _ _ _ _ _ _ _ _ _ _ _ _ _ _ _ _ _ _ _ _ R5 b5
    · clear HNx
      go_wp2_with fail
      exact hK _ _ _ _ _ _ _ _ _ _ _ _ _ _ _ _ _ _ _ _ _ _ _ _ _ _ _ _ _ _ _ _ _ _ _ _ _ _ _ R5 b5
  · go_wp2_with fail
    exact hK _ _ _ _ _ _ _ _ _ _ _ _ _ _ _ _ _ _ _ _ _ _ _ _ _ _ _ _ _ _ _ _ _ _ _ _ _ _ _ RG bel
  · go_wp2_with fail
    exact hK _ _ _ _ _ _ _ _ _ _ _ _ _ _ _ _ _ _ _ _ _ _ _ _ _ _ _ _ _ _ _ _ _ _ _ _ _ _ _ RG bel

set_option maxRecDepth 100000 in
set_option maxHeartbeats 8000000 in
theorem fd_piece2 {AG : Option Addr} {N : Nat} {V : L} {W w : World} {K : Act → World → Prop} {Q : Exit → Act → World → Prop} {a1 c1 n x1 : Int} 
    {v0 v1 v2 v3 v4 v5 v6 v7 v8 v9 v10 v11 v15 v16 v17 v18 v19 v20 v21 v22 v23 v24 v25 v26 v27 v28 v29 v30 v31 v32 v33 v34 v35 v36 v37 v38 v39 v40 v41 v42 v43 v44 v45 v46 v47 v48 v49 v50 v51 v52 v53 v54 v55 v56 v57 v58 v59 v60 v61 v62 v63 v64 v65 v66 v67 v68 v69 v70 v71 v72 v73 v74 v75 v76 v77 v78 v79 v80 v81 v82 v83 v84 v85 v86 v87 v88 v89 v90 v91 v92 v93 v94 v95 v96 v97 v98 v99 v100 v101 v102 v103 v104 v105 v106 v107 v108 v109 v110 v111 v112 v113 v114 v115 v116 v117 v118 v119 v120 v121 v122 v123 v124 v125 v126 v127 v128 v129 v130 v131 v132 v133 v134 v135 v136 v137 v138 v139 v140 v141 v142 v143 v144 v145 v146 v147 v148 v149 v150 v151 v152 v153 v154 v155 v156 v157 v158 v159 v160 v161 v162 v163 v164 v165 v166 v167 v168 v169 v170 v171 v172 v173 v174 v175 v176 v177 v178 v179 v180 v181 v183 v184 v185 v186 v187 v188 v189 v190 v191 v192 v193 v194 v195 v196 v197 v198 v199 v200 v201 v202 v203 v204 v205 v206 v207 v208 v209 v210 v211 v212 v213 v214 v215 v216 v217 v218 v219 v220 v221 v222 v223 v224 v225 v226 v227 v228 v229 v230 v231 v232 v233 v234 v235 v236 v237 v238 v239 v240 v241 v242 v243 v244 v245 v246 v247 v248 v249 v250 v251 v252 v253 v254 v255 v256 v257 v258 v259 v260 v261 v262 v263 v264 v265 v266 v267 v268 v269 v270 v271 v272 : Value} {B : Bool} (n0 : -1 ≤ n) (n1 : n ≤ 730500) (HN : Hid (NearAns n x1 a1 c1)) (HB : Hid (B = true → c1 = 0 ∧ 0 ≤ n - a1 ∧ n - a1 ≤ 730499)) (RG : Sets.Rd w AG N V) (bel : Below W.heap.size W w)
    (hK : ∀ (u2 u28 u29 u183 u184 u185 u186 u187 u188 u189 u190 u191 u192 u193 u194 u195 u196 u197 : Value) (w' : World), Sets.Rd w' AG N V → Below W.heap.size W w' → K ⟨#[v0, v1, u2, v3, v4, v5, v6, v7, v8, v9, v10, v11, .int .i64 n, .int .i64 x1, .int .i64 a1, v15, v16, v17, v18, v19, v20, v21, v22, v23, v24, v25, v26, v27, u28, u29, v30, v31, v32, v33, v34, v35, v36, v37, v38, v39, v40, v41, v42, v43, v44, v45, v46, v47, v48, v49, v50, v51, v52, v53, v54, v55, v56, v57, v58, v59, v60, v61, v62, v63, v64, v65, v66, v67, v68, v69, v70, v71, v72, v73, v74, v75, v76, v77, v78, v79, v80, v81, v82, v83, v84, v85, v86, v87, v88, v89, v90, v91, v92, v93, v94, v95, v96, v97, v98, v99, v100, v101, v102, v103, v104, v105, v106, v107, v108, v109, v110, v111, v112, v113, v114, v115, v116, v117, v118, v119, v120, v121, v122, v123, v124, v125, v126, v127, v128, v129, v130, v131, v132, v133, v134, v135, v136, v137, v138, v139, v140, v141, v142, v143, v144, v145, v146, v147, v148, v149, v150, v151, v152, v153, v154, v155, v156, v157, v158, v159, v160, v161, v162, v163, v164, v165, v166, v167, v168, v169, v170, v171, v172, v173, v174, v175, v176, v177, v178, v179, v180, v181, .bool B, u183, u184, u185, u186, u187, u188, u189, u190, u191, u192, u193, u194, u195, u196, u197, v198, v199, v200, v201, v202, v203, v204, v205, v206, v207, v208, v209, v210, v211, v212, v213, v214, v215, v216, v217, v218, v219, v220, v221, v222, v223, v224, v225, v226, v227, v228, v229, v230, v231, v232, v233, v234, v235, v236, v237, v238, v239, v240, v241, v242, v243, v244, v245, v246, v247, v248, v249, v250, v251, v252, v253, v254, v255, v256, v257, v258, v259, v260, v261, v262, v263, v264, v265, v266, v267, v268, v269, v270, v271, v272], []⟩ w') :
    Code.wp Try.prog piece2 (Exit.then K Q) ⟨#[v0, v1, v2, v3, v4, v5, v6, v7, v8, v9, v10, v11, .int .i64 n, .int .i64 x1, .int .i64 a1, v15, v16, v17, v18, v19, v20, v21, v22, v23, v24, v25, v26, v27, v28, v29, v30, v31, v32, v33, v34, v35, v36, v37, v38, v39, v40, v41, v42, v43, v44, v45, v46, v47, v48, v49, v50, v51, v52, v53, v54, v55, v56, v57, v58, v59, v60, v61, v62, v63, v64, v65, v66, v67, v68, v69, v70, v71, v72, v73, v74, v75, v76, v77, v78, v79, v80, v81, v82, v83, v84, v85, v86, v87, v88, v89, v90, v91, v92, v93, v94, v95, v96, v97, v98, v99, v100, v101, v102, v103, v104, v105, v106, v107, v108, v109, v110, v111, v112, v113, v114, v115, v116, v117, v118, v119, v120, v121, v122, v123, v124, v125, v126, v127, v128, v129, v130, v131, v132, v133, v134, v135, v136, v137, v138, v139, v140, v141, v142, v143, v144, v145, v146, v147, v148, v149, v150, v151, v152, v153, v154, v155, v156, v157, v158, v159, v160, v161, v162, v163, v164, v165, v166, v167, v168, v169, v170, v171, v172, v173, v174, v175, v176, v177, v178, v179, v180, v181, .bool B, v183, v184, v185, v186, v187, v188, v189, v190, v191, v192, v193, v194, v195, v196, v197, v198, v199, v200, v201, v202, v203, v204, v205, v206, v207, v208, v209, v210, v211, v212, v213, v214, v215, v216, v217, v218, v219, v220, v221, v222, v223, v224, v225, v226, v227, v228, v229, v230, v231, v232, v233, v234, v235, v236, v237, v238, v239, v240, v241, v242, v243, v244, v245, v246, v247, v248, v249, v250, v251, v252, v253, v254, v255, v256, v257, v258, v259, v260, v261, v262, v263, v264, v265, v266, v267, v268, v269, v270, v271, v272], []⟩ w := by
  conv => arg 2; whnf
  cases B
  · go_wp2_with fail
    exact hK _ _ _ _ _ _ _ _ _ _ _ _ _ _ _ _ _ _ _ RG bel
  · obtain ⟨hc, h0, h1⟩ := HB.out rfl
    have hx : x1 ∈ fon (n - a1) := by
      rcases HN.out with ⟨-, -, -, hB⟩ | ⟨-, h2, -⟩
      · exact near_on hB
      · exfalso; omega
    have A0 : -2000000 ≤ a1 := by omega
    have A1 : a1 ≤ 2000000 := by omega
    clear hc
    obtain ⟨D, hD⟩ : ∃ D, n - a1 = D := ⟨_, rfl⟩
    rw [hD] at h0 h1 hx
    have hlen := fon_len D
    have O := Lib.hid (impl_on_yes D ⟨h0, h1⟩)
    generalize fon D = T at O hx hlen
    have HXM := Lib.hid hx
    clear hx HB
    go_wp2_with fail
    refine (O.out _).mono ?_
    rintro e w5 ⟨A3, c3, rfl, R3, hb⟩
    have R5 := RG.below hb
    have b5 := bel.trans (hb.mono bel.size)
    clear hb
    go_wp2_with fail
    refine (laws_hasInt A3 _ c3 T x1 (by omega) HXM.out _ R3.rd).mono ?_
    rintro e w6 ⟨rfl, rfl⟩
    go_wp2_with fail
    exact hK _ _ _ _ _ _ _ _ _ _ _ _ _ _ _ _ _ _ _ R5 b5

set_option maxRecDepth 100000 in
set_option maxHeartbeats 8000000 in
theorem fd_piece0 {w : World} {K : Act → World → Prop} {Q : Exit → Act → World → Prop} {n x1 a1 c1 : Int} {v0 v1 v2 v3 v4 v5 v6 v7 v8 v9 v10 v11 v13 v16 v17 v18 v19 v20 v21 v22 v23 v24 v25 v26 v27 v28 v29 v30 v31 v32 v33 v34 v35 v36 v37 v38 v39 v40 v41 v42 v43 v44 v45 v46 v47 v48 v49 v50 v51 v52 v53 v54 v55 v56 v57 v58 v59 v60 v61 v62 v63 v64 v65 v66 v67 v68 v69 v70 v71 v72 v73 v74 v75 v76 v77 v78 v79 v80 v81 v82 v83 v84 v85 v86 v87 v88 v89 v90 v91 v92 v93 v94 v95 v96 v97 v98 v99 v100 v101 v102 v103 v104 v105 v106 v107 v108 v109 v110 v111 v112 v113 v114 v115 v116 v117 v118 v119 v120 v121 v122 v123 v124 v125 v126 v127 v128 v129 v130 v131 v132 v133 v134 v135 v136 v137 v138 v139 v140 v141 v142 v143 v144 v145 v146 v147 v148 v149 v150 v151 v152 v153 v154 v155 v156 v157 v158 v159 v160 v161 v162 v163 v164 v165 v166 v167 v168 v169 v170 v171 v172 v173 v174 v175 v176 v177 v178 v179 v180 v181 v182 v183 v184 v185 v186 v187 v188 v189 v190 v191 v192 v193 v194 v195 v196 v197 v198 v199 v200 v201 v202 v203 v204 v205 v206 v207 v208 v209 v210 v211 v212 v213 v214 v215 v216 v217 v218 v219 v220 v221 v222 v223 v224 v225 v226 v227 v228 v229 v230 v231 v232 v233 v234 v235 v236 v237 v238 v239 v240 v241 v242 v243 v244 v245 v246 v247 v248 v249 v250 v251 v252 v253 v254 v255 v256 v257 v258 v259 v260 v261 v262 v263 v264 v265 v266 v267 v268 v269 v270 v271 v272 : Value} (HN : Hid (NearAns n x1 a1 c1))
    (hK : ∀ (u169 u170 u171 u172 u173 u174 u175 u176 u177 u178 u179 u180 u181 : Value) (B : Bool) (w' : World), Hid (B = true → c1 = 0 ∧ 0 ≤ n - a1 ∧ n - a1 ≤ 730499) → w' = w → K ⟨#[v0, v1, v2, v3, v4, v5, v6, v7, v8, v9, v10, v11, .int .i64 n, v13, .int .i64 a1, .int .i64 c1, v16, v17, v18, v19, v20, v21, v22, v23, v24, v25, v26, v27, v28, v29, v30, v31, v32, v33, v34, v35, v36, v37, v38, v39, v40, v41, v42, v43, v44, v45, v46, v47, v48, v49, v50, v51, v52, v53, v54, v55, v56, v57, v58, v59, v60, v61, v62, v63, v64, v65, v66, v67, v68, v69, v70, v71, v72, v73, v74, v75, v76, v77, v78, v79, v80, v81, v82, v83, v84, v85, v86, v87, v88, v89, v90, v91, v92, v93, v94, v95, v96, v97, v98, v99, v100, v101, v102, v103, v104, v105, v106, v107, v108, v109, v110, v111, v112, v113, v114, v115, v116, v117, v118, v119, v120, v121, v122, v123, v124, v125, v126, v127, v128, v129, v130, v131, v132, v133, v134, v135, v136, v137, v138, v139, v140, v141, v142, v143, v144, v145, v146, v147, v148, v149, v150, v151, v152, v153, v154, v155, v156, v157, v158, v159, v160, v161, v162, v163, v164, v165, v166, v167, v168, u169, u170, u171, u172, u173, u174, u175, u176, u177, u178, u179, u180, u181, .bool B, v183, v184, v185, v186, v187, v188, v189, v190, v191, v192, v193, v194, v195, v196, v197, v198, v199, v200, v201, v202, v203, v204, v205, v206, v207, v208, v209, v210, v211, v212, v213, v214, v215, v216, v217, v218, v219, v220, v221, v222, v223, v224, v225, v226, v227, v228, v229, v230, v231, v232, v233, v234, v235, v236, v237, v238, v239, v240, v241, v242, v243, v244, v245, v246, v247, v248, v249, v250, v251, v252, v253, v254, v255, v256, v257, v258, v259, v260, v261, v262, v263, v264, v265, v266, v267, v268, v269, v270, v271, v272], []⟩ w') :
    Code.wp Try.prog piece0 (Exit.then K Q) ⟨#[v0, v1, v2, v3, v4, v5, v6, v7, v8, v9, v10, v11, .int .i64 n, v13, .int .i64 a1, .int .i64 c1, v16, v17, v18, v19, v20, v21, v22, v23, v24, v25, v26, v27, v28, v29, v30, v31, v32, v33, v34, v35, v36, v37, v38, v39, v40, v41, v42, v43, v44, v45, v46, v47, v48, v49, v50, v51, v52, v53, v54, v55, v56, v57, v58, v59, v60, v61, v62, v63, v64, v65, v66, v67, v68, v69, v70, v71, v72, v73, v74, v75, v76, v77, v78, v79, v80, v81, v82, v83, v84, v85, v86, v87, v88, v89, v90, v91, v92, v93, v94, v95, v96, v97, v98, v99, v100, v101, v102, v103, v104, v105, v106, v107, v108, v109, v110, v111, v112, v113, v114, v115, v116, v117, v118, v119, v120, v121, v122, v123, v124, v125, v126, v127, v128, v129, v130, v131, v132, v133, v134, v135, v136, v137, v138, v139, v140, v141, v142, v143, v144, v145, v146, v147, v148, v149, v150, v151, v152, v153, v154, v155, v156, v157, v158, v159, v160, v161, v162, v163, v164, v165, v166, v167, v168, v169, v170, v171, v172, v173, v174, v175, v176, v177, v178, v179, v180, v181, v182, v183, v184, v185, v186, v187, v188, v189, v190, v191, v192, v193, v194, v195, v196, v197, v198, v199, v200, v201, v202, v203, v204, v205, v206, v207, v208, v209, v210, v211, v212, v213, v214, v215, v216, v217, v218, v219, v220, v221, v222, v223, v224, v225, v226, v227, v228, v229, v230, v231, v232, v233, v234, v235, v236, v237, v238, v239, v240, v241, v242, v243, v244, v245, v246, v247, v248, v249, v250, v251, v252, v253, v254, v255, v256, v257, v258, v259, v260, v261, v262, v263, v264, v265, v266, v267, v268, v269, v270, v271, v272], []⟩ w := by
  conv => arg 2; whnf
  rcases HN.out with ⟨n2, n3, rfl, hB⟩ | ⟨-, rfl, rfl, rfl⟩
  · obtain ⟨A0, A1⟩ := near_bd n2 n3 hB
    clear hB
    by_cases h0 : 0 ≤ n - a1
    · by_cases h1 : n - a1 ≤ 730499
      · go_wp2_with fail
        exact hK _ _ _ _ _ _ _ _ _ _ _ _ _ _ _ (Lib.hid (fun _ => ⟨by trivial, h0, h1⟩)) rfl
      · have HB : Hid (false = true → (0 : Int) = 0 ∧ 0 ≤ n - a1 ∧ n - a1 ≤ 730499) := Lib.hid (fun h => by cases h)
        go_wp2_with fail
        exact hK _ _ _ _ _ _ _ _ _ _ _ _ _ _ _ HB rfl
    · have HB : Hid (false = true → (0 : Int) = 0 ∧ 0 ≤ n - a1 ∧ n - a1 ≤ 730499) := Lib.hid (fun h => by cases h)
      go_wp2_with fail
      exact hK _ _ _ _ _ _ _ _ _ _ _ _ _ _ _ HB rfl
  · have HB : Hid (false = true → (2 : Int) = 0 ∧ 0 ≤ n - 0 ∧ n - 0 ≤ 730499) := Lib.hid (fun h => by cases h)
    go_wp2_with fail
    exact hK _ _ _ _ _ _ _ _ _ _ _ _ _ _ _ HB rfl

/-- What the rounds of the law's loop see and keep. -/
def DK (G o b : Nat) (p q y : Int) (A0 : Option Addr) (N : Nat) (V : L) (W w : World) : Prop :=
  G < w.heap.size ∧ b < w.heap.size ∧ w.cell? ⟨G, o, none⟩ = some (.int .i64 p) ∧ w.cell? ⟨G, o + 1, none⟩ = some (.int .i64 q) ∧ w.cell? ⟨b, 0, none⟩ = some (.int .i64 y) ∧ Sets.Rd w A0 N V ∧ Below W.heap.size W w
theorem DK.below {G o b : Nat} {p q y : Int} {A0 : Option Addr} {N : Nat} {V : L} {W w w' : World} (h : DK G o b p q y A0 N V W w) (hq : Below w.heap.size w w') : DK G o b p q y A0 N V W w' :=
  ⟨Nat.lt_of_lt_of_le h.1 hq.size, Nat.lt_of_lt_of_le h.2.1 hq.size, (hq.cell (p := ⟨G, o, none⟩) h.1).trans h.2.2.1, (hq.cell (p := ⟨G, o + 1, none⟩) h.1).trans h.2.2.2.1, (hq.cell (p := ⟨b, 0, none⟩) h.2.1).trans h.2.2.2.2.1, h.2.2.2.2.2.1.below hq, h.2.2.2.2.2.2.trans (hq.mono h.2.2.2.2.2.2.size)⟩
theorem DK.start {G o : Nat} {p q y m d : Int} {A0 : Option Addr} {N : Nat} {V : L} {W w : World} (hG : G < w.heap.size) (c0 : w.cell? ⟨G, o, none⟩ = some (.int .i64 p)) (c1 : w.cell? ⟨G, o + 1, none⟩ = some (.int .i64 q)) (R : Sets.Rd w A0 N V) (bel : Below W.heap.size W w) :
    DK G o w.heap.size p q y A0 N V W (w.alloc (.cells #[.int .i64 y, .int .i64 m, .int .i64 d] 36)) := by
  have k : Below w.heap.size w (w.alloc (.cells #[.int .i64 y, .int .i64 m, .int .i64 d] 36)) := (Below.refl _ _).alloc (Nat.le_refl _) _
  have z := Blk.new w 36 #[.int .i64 y, .int .i64 m, .int .i64 d]
  exact ⟨Nat.lt_of_lt_of_le hG k.size, z.lt, (k.cell (p := ⟨G, o, none⟩) hG).trans c0, (k.cell (p := ⟨G, o + 1, none⟩) hG).trans c1, z.cell 0, R.below k, bel.trans (k.mono bel.size)⟩

set_option maxRecDepth 100000 in
set_option maxHeartbeats 8000000 in
theorem fd_piece3 {AG : Option Addr} {N cG : Nat} {V : L} {W w : World} {K : Act → World → Prop} {Q : Exit → Act → World → Prop} {f r k a b : Int}
    {v0 v1 v2 v9 v10 v11 v12 v13 v14 v15 v16 v17 v18 v19 v20 v21 v22 v23 v24 v25 v26 v27 v28 v29 v31 v32 v33 v34 v35 v36 v37 v38 v39 v40 v41 v42 v43 v44 v45 v46 v47 v48 v49 v50 v51 v52 v53 v54 v55 v56 v57 v58 v59 v60 v61 v62 v63 v64 v65 v66 v67 v68 v69 v70 v71 v72 v73 v74 v75 v76 v77 v78 v79 v80 v81 v82 v83 v84 v85 v86 v87 v88 v89 v90 v91 v92 v93 v94 v95 v96 v97 v98 v99 v100 v101 v102 v103 v104 v105 v106 v107 v108 v109 v110 v111 v112 v113 v114 v115 v116 v117 v118 v119 v120 v121 v122 v123 v124 v125 v126 v127 v128 v129 v130 v131 v132 v133 v134 v135 v136 v137 v138 v139 v140 v141 v142 v143 v144 v145 v146 v147 v148 v149 v150 v151 v152 v153 v154 v155 v156 v157 v158 v159 v160 v161 v162 v163 v164 v165 v166 v167 v168 v169 v170 v171 v172 v173 v174 v175 v176 v177 v178 v179 v180 v181 v182 v183 v184 v185 v186 v187 v188 v189 v190 v191 v192 v193 v194 v195 v196 v197 v198 v199 v200 v201 v202 v203 v204 v205 v206 v207 v208 v209 v210 v211 v212 v213 v214 v215 v216 v217 v218 v219 v220 v221 v222 v223 v224 v225 v226 v227 v228 v229 v230 v231 v232 v233 v234 v235 v236 v237 v238 v239 v240 v241 v242 v243 v244 v245 v246 v247 v248 v249 v250 v251 v252 v253 v254 v255 v256 v257 v258 v259 v260 v261 v262 v263 v264 v265 v266 v267 v268 v269 v270 v271 v272 : Value} (hl : N ≤ 300) (HS : Hid (∀ s ∈ V, DayOk f r k a b s)) (RG : Sets.Rd w AG N V) (bel : Below W.heap.size W w)
    (hK : ∀ (u2 u30 u31 u32 u33 u34 u35 u36 u200 u201 u202 u203 u204 u205 u206 u207 u208 u209 u210 u211 u212 u213 u214 u215 u216 u217 u218 u219 u220 u221 u222 u223 u224 u225 u226 u227 u228 u229 u230 u231 u232 u233 u234 u235 u236 u237 u238 u239 u240 u241 u242 u243 u244 u245 u246 u247 u248 u249 u250 u251 u252 u253 u254 u255 u256 u257 u258 u259 u260 u261 u262 u263 u264 u265 u266 u267 u268 u269 u270 u271 u272 : Value) (w' : World), Below W.heap.size W w' → K ⟨#[v0, v1, u2, .int .i64 f, .int .i64 r, .int .i64 k, .int .i64 a, .int .i64 b, .slice AG N cG, v9, v10, v11, v12, v13, v14, v15, v16, v17, v18, v19, v20, v21, v22, v23, v24, v25, v26, v27, v28, v29, u30, u31, u32, u33, u34, u35, u36, v37, v38, v39, v40, v41, v42, v43, v44, v45, v46, v47, v48, v49, v50, v51, v52, v53, v54, v55, v56, v57, v58, v59, v60, v61, v62, v63, v64, v65, v66, v67, v68, v69, v70, v71, v72, v73, v74, v75, v76, v77, v78, v79, v80, v81, v82, v83, v84, v85, v86, v87, v88, v89, v90, v91, v92, v93, v94, v95, v96, v97, v98, v99, v100, v101, v102, v103, v104, v105, v106, v107, v108, v109, v110, v111, v112, v113, v114, v115, v116, v117, v118, v119, v120, v121, v122, v123, v124, v125, v126, v127, v128, v129, v130, v131, v132, v133, v134, v135, v136, v137, v138, v139, v140, v141, v142, v143, v144, v145, v146, v147, v148, v149, v150, v151, v152, v153, v154, v155, v156, v157, v158, v159, v160, v161, v162, v163, v164, v165, v166, v167, v168, v169, v170, v171, v172, v173, v174, v175, v176, v177, v178, v179, v180, v181, v182, v183, v184, v185, v186, v187, v188, v189, v190, v191, v192, v193, v194, v195, v196, v197, v198, v199, u200, u201, u202, u203, u204, u205, u206, u207, u208, u209, u210, u211, u212, u213, u214, u215, u216, u217, u218, u219, u220, u221, u222, u223, u224, u225, u226, u227, u228, u229, u230, u231, u232, u233, u234, u235, u236, u237, u238, u239, u240, u241, u242, u243, u244, u245, u246, u247, u248, u249, u250, u251, u252, u253, u254, u255, u256, u257, u258, u259, u260, u261, u262, u263, u264, u265, u266, u267, u268, u269, u270, u271, u272], []⟩ w') :
    Code.wp Try.prog piece3 (Exit.then K Q) ⟨#[v0, v1, v2, .int .i64 f, .int .i64 r, .int .i64 k, .int .i64 a, .int .i64 b, .slice AG N cG, v9, v10, v11, v12, v13, v14, v15, v16, v17, v18, v19, v20, v21, v22, v23, v24, v25, v26, v27, v28, v29, .int .i64 0, v31, v32, v33, v34, v35, v36, v37, v38, v39, v40, v41, v42, v43, v44, v45, v46, v47, v48, v49, v50, v51, v52, v53, v54, v55, v56, v57, v58, v59, v60, v61, v62, v63, v64, v65, v66, v67, v68, v69, v70, v71, v72, v73, v74, v75, v76, v77, v78, v79, v80, v81, v82, v83, v84, v85, v86, v87, v88, v89, v90, v91, v92, v93, v94, v95, v96, v97, v98, v99, v100, v101, v102, v103, v104, v105, v106, v107, v108, v109, v110, v111, v112, v113, v114, v115, v116, v117, v118, v119, v120, v121, v122, v123, v124, v125, v126, v127, v128, v129, v130, v131, v132, v133, v134, v135, v136, v137, v138, v139, v140, v141, v142, v143, v144, v145, v146, v147, v148, v149, v150, v151, v152, v153, v154, v155, v156, v157, v158, v159, v160, v161, v162, v163, v164, v165, v166, v167, v168, v169, v170, v171, v172, v173, v174, v175, v176, v177, v178, v179, v180, v181, v182, v183, v184, v185, v186, v187, v188, v189, v190, v191, v192, v193, v194, v195, v196, v197, v198, v199, v200, v201, v202, v203, v204, v205, v206, v207, v208, v209, v210, v211, v212, v213, v214, v215, v216, v217, v218, v219, v220, v221, v222, v223, v224, v225, v226, v227, v228, v229, v230, v231, v232, v233, v234, v235, v236, v237, v238, v239, v240, v241, v242, v243, v244, v245, v246, v247, v248, v249, v250, v251, v252, v253, v254, v255, v256, v257, v258, v259, v260, v261, v262, v263, v264, v265, v266, v267, v268, v269, v270, v271, v272], []⟩ w := by
  conv => arg 2; whnf
  go_wp2_with fail
  go_loopg [30] N (fun k i wr => ∃ j : Nat, i = .int .i64 j ∧ k = N - j ∧ j ≤ N ∧ Sets.Rd wr AG N V ∧ Below W.heap.size W wr)
  case atStart => exact ⟨0, rfl, by omega, by omega, RG, bel⟩
  case round =>
    obtain ⟨j, rfl, hk, hj, RR, bel⟩ := hrel
    subst hk
    clear RG
    by_cases hlt : j < N
    · obtain ⟨G, off, hl2, rfl, hg, c0, c1⟩ := RR.at_ hlt
      obtain ⟨s1, s2, sd, y, hy, e1, e2, y1, y2⟩ := HS.out V[j] (List.getElem_mem hl2)
      have OD := Lib.hid (impl_OldDate_yr _ sd)
      obtain ⟨ya, yb⟩ := yr_isY _ sd.1 sd.2
      generalize yr V[j].1 = yd at OD ya yb y1 y2
      generalize V[j].1 = p at c0 s1 sd e1 OD
      generalize V[j].2 = q at c1 s2
      obtain ⟨yh0, yh1⟩ := hy
      have HE := Lib.hid (And.intro e1 e2)
      clear e1 e2 sd hl2
      obtain ⟨Y0, hY0⟩ : ∃ Y0, max 1 (yd - 1) = Y0 := ⟨_, rfl⟩
      obtain ⟨Y1, hY1⟩ : ∃ Y1, min 2000 (yd + 1) = Y1 := ⟨_, rfl⟩
      have hA0 : Y0 ≤ y := by omega
      have hA1 : y ≤ Y1 := by omega
      have hA2 : 1 ≤ Y0 := by omega
      have hA3 : Y1 ≤ 2000 := by omega
      go_wp2_with fail
      refine (OD.out _).mono ?_
      rintro e w5 ⟨m2, d2, rfl, hb⟩
      have R5 := RR.below hb
      have b5 := bel.trans (hb.mono bel.size)
      have c0' := (hb.cell (p := ⟨G, off + j * 2, none⟩) hg).trans c0
      have c1' := (hb.cell (p := ⟨G, off + j * 2 + 1, none⟩) hg).trans c1
      have hg5 := Nat.lt_of_lt_of_le hg hb.size
      have DD := Lib.hid (DK.start (y := yd) (m := m2) (d := d2) hg5 c0' c1' R5 b5)
      clear c0 c1 hg hb RR bel
      go_wp2_with fail
      clear c0' c1' R5 b5 OD
      generalize w5.alloc (.cells #[.int .i64 yd, .int .i64 m2, .int .i64 d2] 36) = w6 at DD ⊢
      generalize w5.heap.size = bb at DD hg5 ⊢
      go_loopg [33, 34] (Y1 + 1 - Y0).toNat (fun k t i wr => ∃ (F : Bool) (Y : Int), t = .bool F ∧ i = .int .i64 Y ∧ k = (Y1 + 1 - Y).toNat ∧ Y0 ≤ Y ∧ Y ≤ Y1 + 1 ∧ Hid (F = true ∨ Y ≤ y) ∧ DK G (off + j * 2) bb p q yd (some ⟨G, off, none⟩) N V W wr)
      case atStart => exact ⟨false, Y0, rfl, rfl, rfl, by omega, by omega, Lib.hid (.inr hA0), DD.out⟩
      case round =>
        clear DD
        obtain ⟨F, Y, rfl, rfl, hk, hY2, hY3, HF, DD⟩ := hrel
        subst hk
        obtain ⟨-, -, g0, g1, g2, -, -⟩ := id DD
        by_cases hY : Y ≤ Y1
        · have R := Lib.hid (impl_RelatedDay f r k Y)
          have HQ : Hid (Y = y → relN f r k Y = p ∧ relE f r k Y = 0) := Lib.hid (fun e => e ▸ HE.out)
          generalize relN f r k Y = N8 at R HQ
          generalize relE f r k Y = E8 at R HQ
          cases F
          · have hYy : Y ≤ y := by
              rcases HF.out with h | h
              · cases h
              · exact h
            by_cases h8 : E8 = 0
            · subst h8
              by_cases hp : N8 = p
              · have e8 : (N8 == p) = true := by simpa using hp
                clear hp HQ HF
                go_wp2_with fail
                refine (R.out _).mono ?_
                rintro e w7 ⟨rfl, hb7⟩
                have D7 := DD.below hb7
                obtain ⟨-, -, g0, g1, g2, -, -⟩ := id D7
                have D7 := Lib.hid D7
                go_wp2_with fail
                go_roundg (Y1 + 1 - (Y + 1)).toNat
                case measure => omega
                case rel => exact ⟨true, Y + 1, by simp, by go_num, rfl, by omega, by omega, Lib.hid (.inl rfl), D7.out⟩
              · have e8 : (N8 == p) = false := by simpa using hp
                have HN : Hid (false = true ∨ Y + 1 ≤ y) := by
                  have : Y ≠ y := fun e => hp (HQ.out e).1
                  exact Lib.hid (.inr (by omega))
                clear hp HQ HF
                go_wp2_with fail
                refine (R.out _).mono ?_
                rintro e w7 ⟨rfl, hb7⟩
                have D7 := DD.below hb7
                obtain ⟨-, -, g0, g1, g2, -, -⟩ := id D7
                have D7 := Lib.hid D7
                go_wp2_with fail
                go_roundg (Y1 + 1 - (Y + 1)).toNat
                case measure => omega
                case rel => exact ⟨false, Y + 1, by simp, by go_num, rfl, by omega, by omega, HN, D7.out⟩
            · have e8 : (E8 == 0) = false := by simpa using h8
              have HN : Hid (false = true ∨ Y + 1 ≤ y) := by
                have : Y ≠ y := fun e => h8 (HQ.out e).2
                exact Lib.hid (.inr (by omega))
              clear h8 HQ HF
              go_wp2_with fail
              refine (R.out _).mono ?_
              rintro e w7 ⟨rfl, hb7⟩
              have D7 := DD.below hb7
              obtain ⟨-, -, g0, g1, g2, -, -⟩ := id D7
              have D7 := Lib.hid D7
              go_wp2_with fail
              go_roundg (Y1 + 1 - (Y + 1)).toNat
              case measure => omega
              case rel => exact ⟨false, Y + 1, by simp, by go_num, rfl, by omega, by omega, HN, D7.out⟩
          · clear HQ HF
            go_wp2_with fail
            refine (R.out _).mono ?_
            rintro e w7 ⟨rfl, hb7⟩
            have D7 := DD.below hb7
            obtain ⟨-, -, g0, g1, g2, -, -⟩ := id D7
            have D7 := Lib.hid D7
            go_wp2_with fail
            go_roundg (Y1 + 1 - (Y + 1)).toNat
            case measure => omega
            case rel => exact ⟨true, Y + 1, by simp, by go_num, rfl, by omega, by omega, Lib.hid (.inl rfl), D7.out⟩
        · have hF : F = true := by
            rcases HF.out with h | h
            · exact h
            · exfalso; omega
          subst hF
          have hge : Y1 + 1 ≤ Y := by omega
          clear HF
          have R8 := DD.2.2.2.2.2.1
          have b8 := DD.2.2.2.2.2.2
          clear DD
          go_wp2_with fail
          go_roundg (N - (j + 1))
          case measure => omega
          case rel => exact ⟨j + 1, by go_num, rfl, by omega, R8, b8⟩
    · have e : j = N := by omega
      have hge : (N : Int) ≤ j := by omega
      clear HS
      go_wp2_with fail
      exact bel

set_option maxHeartbeats 400000 in
theorem laws_big5 (A : Option Addr) (len cap : Nat) (hm : len ≤ maxLen) (w : World) :
    Calls Try.prog 18 #[.slice A len cap] w fun e w' => e = .returned (.bool (decide (4096 < len))) ∧ w = w' := by
  unfold maxLen at hm
  go_enter Try.func18, Try.ntmps18
  go_wp2_with fail
  go_ret
  exact ⟨ret_bool (by simp; try omega), rfl⟩

set_option maxRecDepth 100000 in
set_option maxHeartbeats 8000000 in
theorem walk_FnFeastDays (A : Option Addr) (len cap : Nat) (zs : List Int) (W : World) (hrow : IsRow .u8 W A len cap zs) :
    Calls Try.prog 5 #[.slice A len cap] W (Bl true W) := by
  have hm : len ≤ maxLen := by
    rcases hrow with ⟨_, rfl, _⟩ | ⟨_, _, h1, h2, _⟩
    · exact Nat.zero_le _
    · omega
  have HR := Lib.hid hrow
  clear hrow
  have S := St.start W
  by_cases hbig : 4096 < len
  · go_enter Try.func5, Try.ntmps5
    go_wp2_with fail
    refine (laws_big5 A len cap hm _).mono ?_
    rintro e w1 ⟨rfl, rfl⟩
    go_wp2_with fail
    go_ret
    exact ⟨rfl, Below.refl _ _⟩
  go_enter Try.func5, Try.ntmps5
  go_wp2_with fail
  refine (laws_big5 A len cap hm _).mono ?_
  rintro e w1 ⟨rfl, rfl⟩
  go_wp2_with fail
  refine (spec_DrawFeastDays A len cap zs W _ HR.out S.bel).mono ?_
  rintro e wq ⟨f, r, k, a, b, rfl, hb⟩
  have S := S.call hb
  clear hb
  go_wp2_with fail
  refine (impl_FeastDays f r k a b _).mono ?_
  rintro e wq ⟨V, E, hV, AG, cG, rfl, RG, hb⟩
  have S := S.call hb
  have HV := Lib.hid hV
  replace RG := RG.rd
  clear hb hV
  go_wp2_with fail
  refine (spec_FeastDays f r k a b _).mono ?_
  rintro e wq ⟨V2, E2, hV2, AW, cW, rfl, RW, hb⟩
  have S := S.call hb
  obtain ⟨rfl, rfl⟩ := HV.out.uniq hV2
  replace RG := RG.below hb
  replace RW := RW.rd
  clear hb hV2
  go_wp2_with fail
  refine (spec_DrawNearestFeast A len cap zs W _ HR.out S.bel).mono ?_
  rintro e wq ⟨n, rfl, hn, hb⟩
  have S := S.call hb
  replace RG := RG.below hb
  replace RW := RW.below hb
  obtain ⟨n0, n1⟩ := hn
  clear hb
  go_wp2_with fail
  refine (impl_NearestFeast n _).mono ?_
  rintro e wq ⟨x1, a1, c1, rfl, hN, hb⟩
  have S := S.call hb
  have HN := Lib.hid hN
  replace RG := RG.below hb
  replace RW := RW.below hb
  clear hb hN
  go_wp2_with fail
  refine (spec_NearestFeast n _).mono ?_
  rintro e wq ⟨x2, a2, c2, rfl, hN, hb⟩
  have S := S.call hb
  obtain ⟨rfl, rfl, rfl⟩ := HN.out.uniq hN
  replace RG := RG.below hb
  replace RW := RW.below hb
  clear hb hN
  go_wp2_with fail
  refine (spec_DrawNextFeast A len cap zs W _ HR.out S.bel).mono ?_
  rintro e wq ⟨m, rfl, hn, hb⟩
  have S := S.call hb
  replace RG := RG.below hb
  replace RW := RW.below hb
  obtain ⟨m0, m1⟩ := hn
  clear hb
  go_wp2_with fail
  refine (impl_NextFeast m _).mono ?_
  rintro e wq ⟨d, x3, c3, rfl, hN, hb⟩
  have S := S.call hb
  have HX := Lib.hid hN
  replace RG := RG.below hb
  replace RW := RW.below hb
  clear hb hN
  go_wp2_with fail
  refine (spec_NextFeast m _).mono ?_
  rintro e wq ⟨d2, x4, c4, rfl, hN, hb⟩
  have S := S.call hb
  obtain ⟨rfl, rfl, rfl⟩ := HX.out.uniq hN
  replace RG := RG.below hb
  replace RW := RW.below hb
  clear hb hN
  have HL := Lib.hid (fdAns_cases HV.out)
  have hl := HL.out.1
  go_wp2_with fail
  refine (laws_like5 AG AW _ _ _ V (by omega) _ RG RW).mono ?_
  rintro e w4 ⟨rfl, hb⟩
  have S := S.call hb
  replace RG := RG.below hb
  have bel := S.bel
  clear hb RW S HR
  obtain ⟨N, hN2⟩ : ∃ N, V.length = N := ⟨_, rfl⟩
  rw [hN2] at RG hl ⊢
  clear hN2
  go_upto_if 133 with (fail)
  refine fd_piece1 m0 m1 HN HX RG bel ?_
  intro z2 z26 z27 z134 z135 z136 z137 z138 z139 z140 z141 z142 z143 z144 z145 z146 z147 z148 z149 z150 z151 z152 z153 z154 z155 z156 z157 z158 z159 z160 z161 z162 z163 z164 z165 z166 z167 z168 w5 RG5 bel5
  go_upto_region 20 with (fail)
  refine fd_piece0 HN ?_
  intro z169 z170 z171 z172 z173 z174 z175 z176 z177 z178 z179 z180 z181 B w6 HB hw6
  subst hw6
  go_upto_if 182 with (fail)
  refine fd_piece2 n0 n1 HN HB RG5 bel5 ?_
  intro z2 z28 z29 z183 z184 z185 z186 z187 z188 z189 z190 z191 z192 z193 z194 z195 z196 z197 w7 RG7 bel7
  rcases HL.out.2 with e0 | ⟨rfl, HS⟩
  · clear HB HN HL HX HV
    go_wp2_with fail
    go_ret
    exact ⟨rfl, bel7⟩
  · have HS := Lib.hid HS
    clear HB HN HL HX HV
    go_upto_block 0 with (fail)
    refine fd_piece3 hl HS RG7 bel7 ?_
    intro z2 z30 z31 z32 z33 z34 z35 z36 z200 z201 z202 z203 z204 z205 z206 z207 z208 z209 z210 z211 z212 z213 z214 z215 z216 z217 z218 z219 z220 z221 z222 z223 z224 z225 z226 z227 z228 z229 z230 z231 z232 z233 z234 z235 z236 z237 z238 z239 z240 z241 z242 z243 z244 z245 z246 z247 z248 z249 z250 z251 z252 z253 z254 z255 z256 z257 z258 z259 z260 z261 z262 z263 z264 z265 z266 z267 z268 z269 z270 z271 z272 w8 bel8
    go_wp2_with fail
    go_ret
    exact ⟨rfl, bel8⟩


end Go.Proofs.Ytegoiiconhgjbaa.Fea
