/- The law RowsEnds. -/
import Derived.Test.YtebhcadolnjplaaGreatWe
import Derived.Deep.CutRange
namespace Go.Proofs.YtebhcadolnjplaaGreat
open Go.RowKit

/-- A region of a function's text. -/
def findReg (i : Nat) : Code → Option Code
  | .region j ops d => if i = j then some (.region j ops d) else none
  | .seq a b => match findReg i a with
    | some c => some c
    | none => findReg i b
  | .cond _ a b => match findReg i a with
    | some c => some c
    | none => findReg i b
  | .block _ c => findReg i c
  | .loop c => findReg i c
  | .scope c => findReg i c
  | _ => none
noncomputable def reg10 : Code := (Tryz.f4.body.bind (findReg 10)).getD .skip
set_option maxRecDepth 100000 in
set_option maxHeartbeats 8000000 in
theorem reg10_w (w3 : World) (a b i k j : Nat) (zi zk lo hi' : Str) (xi : w3.cell? ⟨a, i, none⟩ = some (.string zi)) (xk : w3.cell? ⟨a, k, none⟩ = some (.string zk)) (xl : w3.cell? ⟨b, j * 2, none⟩ = some (.string lo)) (xh : w3.cell? ⟨b, j * 2 + 1, none⟩ = some (.string hi'))
    (HSI : Hid (zi.size ≤ 10000)) (HSK : Hid (zk.size ≤ 10000)) (HSJ : Hid (lo.size ≤ 10000 ∧ hi'.size ≤ 10000)) (eik : IntKind.i64.wrap ((i : Int) + (k : Int)) = (i : Int) + (k : Int)) (et : Int.tmod ((i : Int) + (k : Int)) 10 = (j : Int))
    (i0 : (0 : Int) ≤ (i : Int)) (i1 : (i : Int) < 12) (k0 : (0 : Int) ≤ (k : Int)) (k1 : (k : Int) < 12) (j0 : (0 : Int) ≤ (j : Int)) (j1 : (j : Int) < 10) (v0 v1 v6 v7 v8 v9 v10 v11 v12 v13 v14 v15 v16 v17 v18 v19 v20 v21 v22 v23 v24 v25 v26 v27 v28 v29 v30 v31 v32 v33 v34 v35 v36 v37 v38 v39 v40 v41 v42 v43 v44 v45 v46 v47 v48 v49 v50 v51 v52 v53 v54 v55 v56 v57 v58 v59 v60 v61 v62 v63 v64 v65 v66 v67 v68 v69 v70 v71 v72 v73 v74 v75 v76 v77 v78 v79 v80 v81 v82 v83 v84 v85 v86 v87 v88 v89 v90 v91 v92 v93 v94 v95 v96 v97 v98 v99 v100 v101 v102 v103 v104 v105 v106 v107 v108 v109 v110 v111 v112 v113 v114 v115 v116 v117 v118 v119 v120 v121 v122 v123 v124 v125 v126 v127 v128 v129 v130 v131 v132 v133 v134 v135 v136 v137 v138 v139 v140 v141 v142 v143 v144 v145 v146 v147 v148 v149 v150 v151 v152 v153 v154 v155 v156 v157 v158 v159 v160 v161 v162 v163 v164 v165 v166 v167 v168 v169 v170 v171 v172 v173 v174 v175 v176 v177 v178 v179 v180 v181 v182 v183 v184 v185 v186 v187 v188 v189 v190 v191 v192 v193 v194 v195 v196 v197 v198 v199 v200 v201 v202 v203 v204 v205 v206 v207 v208 v209 v210 v211 v212 v213 v214 v215 v216 v217 v218 v219 v220 v221 v222 v223 v224 v225 v226 v227 v228 v229 v230 v231 v232 v233 v234 v235 v236 v237 v238 v239 v240 v241 v242 v243 v244 v245 v246 v247 v248 v249 v250 v251 v252 v253 v254 v255 v256 v257 : Value) (Q : Exit → Act → World → Prop)
    (HQ : Hid (∀ (u46 u47 u48 u49 u50 u51 u52 u53 u54 u55 u56 u57 u58 u59 u60 u61 u62 u63 u64 u65 u66 u67 u68 u69 u70 u71 u72 u73 u74 u75 u76 u77 u78 u79 u80 u81 u82 u83 u84 v6x : Value) (wx : World), Dl w3 v6x wx → Q .normal ⟨#[v0, v1, .slice (some ⟨a, 0, none⟩) 12 12, .slice (some ⟨b, 0, none⟩) 10 10, .int .i64 i, .int .i64 k, v6x, v7, v8, v9, v10, v11, v12, v13, v14, v15, v16, v17, v18, v19, v20, v21, v22, v23, v24, v25, v26, v27, v28, v29, v30, v31, v32, v33, v34, v35, v36, v37, v38, v39, v40, v41, v42, v43, v44, v45, u46, u47, u48, u49, u50, u51, u52, u53, u54, u55, u56, u57, u58, u59, u60, u61, u62, u63, u64, u65, u66, u67, u68, u69, u70, u71, u72, u73, u74, u75, u76, u77, u78, u79, u80, u81, u82, u83, u84, v85, v86, v87, v88, v89, v90, v91, v92, v93, v94, v95, v96, v97, v98, v99, v100, v101, v102, v103, v104, v105, v106, v107, v108, v109, v110, v111, v112, v113, v114, v115, v116, v117, v118, v119, v120, v121, v122, v123, v124, v125, v126, v127, v128, v129, v130, v131, v132, v133, v134, v135, v136, v137, v138, v139, v140, v141, v142, v143, v144, v145, v146, v147, v148, v149, v150, v151, v152, v153, v154, v155, v156, v157, v158, v159, v160, v161, v162, v163, v164, v165, v166, v167, v168, v169, v170, v171, v172, v173, v174, v175, v176, v177, v178, v179, v180, v181, v182, v183, v184, v185, v186, v187, v188, v189, v190, v191, v192, v193, v194, v195, v196, v197, v198, v199, v200, v201, v202, v203, v204, v205, v206, v207, v208, v209, v210, v211, v212, v213, v214, v215, v216, v217, v218, v219, v220, v221, v222, v223, v224, v225, v226, v227, v228, v229, v230, v231, v232, v233, v234, v235, v236, v237, v238, v239, v240, v241, v242, v243, v244, v245, v246, v247, v248, v249, v250, v251, v252, v253, v254, v255, v256, v257], []⟩ wx)) :
    Code.wp Tryz.prog reg10 Q ⟨#[v0, v1, .slice (some ⟨a, 0, none⟩) 12 12, .slice (some ⟨b, 0, none⟩) 10 10, .int .i64 i, .int .i64 k, v6, v7, v8, v9, v10, v11, v12, v13, v14, v15, v16, v17, v18, v19, v20, v21, v22, v23, v24, v25, v26, v27, v28, v29, v30, v31, v32, v33, v34, v35, v36, v37, v38, v39, v40, v41, v42, v43, v44, v45, v46, v47, v48, v49, v50, v51, v52, v53, v54, v55, v56, v57, v58, v59, v60, v61, v62, v63, v64, v65, v66, v67, v68, v69, v70, v71, v72, v73, v74, v75, v76, v77, v78, v79, v80, v81, v82, v83, v84, v85, v86, v87, v88, v89, v90, v91, v92, v93, v94, v95, v96, v97, v98, v99, v100, v101, v102, v103, v104, v105, v106, v107, v108, v109, v110, v111, v112, v113, v114, v115, v116, v117, v118, v119, v120, v121, v122, v123, v124, v125, v126, v127, v128, v129, v130, v131, v132, v133, v134, v135, v136, v137, v138, v139, v140, v141, v142, v143, v144, v145, v146, v147, v148, v149, v150, v151, v152, v153, v154, v155, v156, v157, v158, v159, v160, v161, v162, v163, v164, v165, v166, v167, v168, v169, v170, v171, v172, v173, v174, v175, v176, v177, v178, v179, v180, v181, v182, v183, v184, v185, v186, v187, v188, v189, v190, v191, v192, v193, v194, v195, v196, v197, v198, v199, v200, v201, v202, v203, v204, v205, v206, v207, v208, v209, v210, v211, v212, v213, v214, v215, v216, v217, v218, v219, v220, v221, v222, v223, v224, v225, v226, v227, v228, v229, v230, v231, v232, v233, v234, v235, v236, v237, v238, v239, v240, v241, v242, v243, v244, v245, v246, v247, v248, v249, v250, v251, v252, v253, v254, v255, v256, v257], []⟩ w3 := by
  conv => arg 2; whnf
  go_region_held3 (fun w' => w'.cell? ⟨a, i, none⟩ = some (.string zi) ∧ w'.cell? ⟨a, k, none⟩ = some (.string zk) ∧ w'.cell? ⟨b, j * 2, none⟩ = some (.string lo) ∧ w'.cell? ⟨b, j * 2 + 1, none⟩ = some (.string hi'))
    ((refine ⟨Ok.cell ?_ xi, Ok.cell ?_ xk, Ok.cell ?_ xl, Ok.cell ?_ xh⟩ <;> (repeat (first | (with_reducible exact Ok.refl _) | (with_reducible assumption) | (with_reducible refine Ok.drew ?_) | (with_reducible refine Ok.alloc ?_ _))); done))
    (fail)
  all_goals (refine HQ.out _ _ _ _ _ _ _ _ _ _ _ _ _ _ _ _ _ _ _ _ _ _ _ _ _ _ _ _ _ _ _ _ _ _ _ _ _ _ _ _ _ ?_)
  all_goals (first | exact dl_a2 w3 lo hi' zi zk HSI.out HSK.out HSJ.out.1 HSJ.out.2 | exact dl_b2 w3 lo hi' zi zk HSI.out HSK.out HSJ.out.1 HSJ.out.2)
noncomputable def reg19 : Code := (Tryz.f4.body.bind (findReg 19)).getD .skip
set_option maxRecDepth 100000 in
set_option maxHeartbeats 8000000 in
theorem reg19_w (w4 w6 : World) (p m g c : Nat) (HC : Hid (PtH w4 p m g c)) (HPT : Hid (Pt w4 p m [] [] w6)) (hc1 : ¬ (c = 1)) (hc5 : ¬ (c = 5)) (hc0 : ¬ (c = 0)) (hcap1 : (1 : Int) ≤ (c : Int)) (hcap9 : (9 : Int) ≤ (c : Int)) (v0 v1 v2 v3 v4 v5 v6 v8 v11 v12 v13 v14 v15 v16 v17 v18 v19 v20 v21 v22 v23 v24 v25 v26 v27 v28 v29 v30 v31 v32 v33 v34 v35 v36 v37 v38 v39 v40 v41 v42 v43 v44 v45 v46 v47 v48 v49 v50 v51 v52 v53 v54 v55 v56 v57 v58 v59 v60 v61 v62 v63 v64 v65 v66 v67 v68 v69 v70 v71 v72 v73 v74 v75 v76 v77 v78 v79 v80 v81 v82 v83 v84 v85 v86 v87 v88 v89 v90 v91 v92 v93 v94 v95 v96 v97 v98 v99 v100 v101 v102 v103 v104 v105 v106 v107 v108 v109 v110 v111 v112 v113 v114 v115 v116 v117 v118 v119 v120 v121 v122 v123 v124 v125 v126 v127 v128 v129 v130 v131 v132 v133 v134 v135 v136 v137 v138 v139 v140 v141 v142 v143 v144 v145 v146 v147 v148 v149 v150 v151 v152 v153 v154 v155 v156 v157 v158 v159 v160 v161 v162 v163 v164 v165 v166 v167 v168 v169 v170 v171 v172 v173 v174 v175 v176 v177 v178 v179 v180 v181 v182 v183 v184 v185 v186 v187 v188 v189 v190 v191 v192 v193 v194 v195 v196 v197 v198 v199 v200 v201 v202 v203 v204 v205 v206 v207 v208 v209 v210 v211 v212 v213 v214 v215 v216 v217 v218 v219 v220 v221 v222 v223 v224 v225 v226 v227 v228 v229 v230 v231 v232 v233 v234 v235 v236 v237 v238 v239 v240 v241 v242 v243 v244 v245 v246 v247 v248 v249 v250 v251 v252 v253 v254 v255 v256 v257 : Value) (Q : Exit → Act → World → Prop)
    (HQ : Hid (∀ (u141 u142 u143 u144 u145 u146 u147 u148 u149 u150 u151 u152 u153 u154 u155 u156 u157 u158 u159 u160 u161 u162 u163 u164 u165 u166 u167 u168 u169 u170 u171 u172 u173 u174 u175 u176 u177 u178 u179 u180 u181 u182 u183 u184 u185 u186 u187 u188 u189 u190 : Value) (wx : World), Pt w4 p m aK aK wx → Q .normal ⟨#[v0, v1, v2, v3, v4, v5, v6, .slice (some ⟨g, 0, none⟩) 401 c, v8, .pointer (some ⟨p, 0, none⟩), .pointer (some ⟨m, 0, none⟩), v11, v12, v13, v14, v15, v16, v17, v18, v19, v20, v21, v22, v23, v24, v25, v26, v27, v28, v29, v30, v31, v32, v33, v34, v35, v36, v37, v38, v39, v40, v41, v42, v43, v44, v45, v46, v47, v48, v49, v50, v51, v52, v53, v54, v55, v56, v57, v58, v59, v60, v61, v62, v63, v64, v65, v66, v67, v68, v69, v70, v71, v72, v73, v74, v75, v76, v77, v78, v79, v80, v81, v82, v83, v84, v85, v86, v87, v88, v89, v90, v91, v92, v93, v94, v95, v96, v97, v98, v99, v100, v101, v102, v103, v104, v105, v106, v107, v108, v109, v110, v111, v112, v113, v114, v115, v116, v117, v118, v119, v120, v121, v122, v123, v124, v125, v126, v127, v128, v129, v130, v131, v132, v133, v134, v135, v136, v137, v138, v139, v140, u141, u142, u143, u144, u145, u146, u147, u148, u149, u150, u151, u152, u153, u154, u155, u156, u157, u158, u159, u160, u161, u162, u163, u164, u165, u166, u167, u168, u169, u170, u171, u172, u173, u174, u175, u176, u177, u178, u179, u180, u181, u182, u183, u184, u185, u186, u187, u188, u189, u190, .bool false, v192, v193, v194, v195, v196, v197, v198, v199, v200, v201, v202, v203, v204, v205, v206, v207, v208, v209, v210, v211, v212, v213, v214, v215, v216, v217, v218, v219, v220, v221, v222, v223, v224, v225, v226, v227, v228, v229, v230, v231, v232, v233, v234, v235, v236, v237, v238, v239, v240, v241, v242, v243, v244, v245, v246, v247, v248, v249, v250, v251, v252, v253, v254, v255, v256, v257], []⟩ wx)) :
    Code.wp Tryz.prog reg19 Q ⟨#[v0, v1, v2, v3, v4, v5, v6, .slice (some ⟨g, 0, none⟩) 401 c, v8, .pointer (some ⟨p, 0, none⟩), .pointer (some ⟨m, 0, none⟩), v11, v12, v13, v14, v15, v16, v17, v18, v19, v20, v21, v22, v23, v24, v25, v26, v27, v28, v29, v30, v31, v32, v33, v34, v35, v36, v37, v38, v39, v40, v41, v42, v43, v44, v45, v46, v47, v48, v49, v50, v51, v52, v53, v54, v55, v56, v57, v58, v59, v60, v61, v62, v63, v64, v65, v66, v67, v68, v69, v70, v71, v72, v73, v74, v75, v76, v77, v78, v79, v80, v81, v82, v83, v84, v85, v86, v87, v88, v89, v90, v91, v92, v93, v94, v95, v96, v97, v98, v99, v100, v101, v102, v103, v104, v105, v106, v107, v108, v109, v110, v111, v112, v113, v114, v115, v116, v117, v118, v119, v120, v121, v122, v123, v124, v125, v126, v127, v128, v129, v130, v131, v132, v133, v134, v135, v136, v137, v138, v139, v140, v141, v142, v143, v144, v145, v146, v147, v148, v149, v150, v151, v152, v153, v154, v155, v156, v157, v158, v159, v160, v161, v162, v163, v164, v165, v166, v167, v168, v169, v170, v171, v172, v173, v174, v175, v176, v177, v178, v179, v180, v181, v182, v183, v184, v185, v186, v187, v188, v189, v190, v191, v192, v193, v194, v195, v196, v197, v198, v199, v200, v201, v202, v203, v204, v205, v206, v207, v208, v209, v210, v211, v212, v213, v214, v215, v216, v217, v218, v219, v220, v221, v222, v223, v224, v225, v226, v227, v228, v229, v230, v231, v232, v233, v234, v235, v236, v237, v238, v239, v240, v241, v242, v243, v244, v245, v246, v247, v248, v249, v250, v251, v252, v253, v254, v255, v256, v257], []⟩ w6 := by
  conv => arg 2; whnf
  go_region_held3 (fun _ => True)
    (trivial)
    ((first
      | (go_at_call 18; (with_reducible refine (HC.out.a18 _ ?_).mono ?_); (first | exact HPT.out | exact HPT.out.ok' (Ok.refl _).drew); rintro _ wa ⟨rfl, ta⟩)
      | (go_at_call 19; (with_reducible refine (HC.out.a19 _ ?_).mono ?_); (first | exact ta | exact ta.ok' (Ok.refl _).drew); rintro _ wb ⟨rfl, tb⟩)
      | (go_at_call 18; (with_reducible refine (HC.out.b18 _ _ ?_).mono ?_); (first | exact tb | exact tb.ok' (Ok.refl _).drew); rintro _ wc ⟨rfl, tc⟩)
      | (go_at_call 19; (with_reducible refine (HC.out.b19 _ _ ?_).mono ?_); (first | exact tc | exact tc.ok' (Ok.refl _).drew); rintro _ wd ⟨rfl, td⟩)
      | (go_at_call 18; (with_reducible refine (HC.out.c18 _ _ ?_).mono ?_); (first | exact td | exact td.ok' (Ok.refl _).drew); rintro _ we ⟨rfl, te⟩)
      | (go_at_call 19; (with_reducible refine (HC.out.c19 _ _ ?_).mono ?_); (first | exact te | exact te.ok' (Ok.refl _).drew); rintro _ wf ⟨rfl, tf⟩)
      | (go_at_call 18; (with_reducible refine (HC.out.d18 _ _ ?_).mono ?_); (first | exact tf | exact tf.ok' (Ok.refl _).drew); rintro _ wg ⟨rfl, tg⟩)
      | (go_at_call 19; (with_reducible refine (HC.out.d19 _ _ ?_).mono ?_); (first | exact tg | exact tg.ok' (Ok.refl _).drew); rintro _ wh ⟨rfl, th⟩)
      | (go_at_call 12; (with_reducible refine (HC.out.e12 _ ?_).mono ?_); (first | exact th | exact th.ok' (Ok.refl _).drew); rintro _ wi ⟨rfl, ti⟩)
      | (go_at_call 20; (with_reducible refine (HC.out.e20 _ ?_).mono ?_); (first | exact ti | exact ti.ok' (Ok.refl _).drew); rintro _ wj ⟨rfl, tj⟩)))
  refine HQ.out _ _ _ _ _ _ _ _ _ _ _ _ _ _ _ _ _ _ _ _ _ _ _ _ _ _ _ _ _ _ _ _ _ _ _ _ _ _ _ _ _ _ _ _ _ _ _ _ _ _ _ ?_
  exact tj
noncomputable def reg24 : Code := (Tryz.f4.body.bind (findReg 24)).getD .skip
set_option maxRecDepth 100000 in
set_option maxHeartbeats 8000000 in
theorem reg24_w (w4 w8 : World) (m q gm cm : Nat) (HO8 : Hid (Ok w4 w8)) (HOWN : Hid (OwnR w8 w4.heap.size (some ⟨gm, 0, none⟩) 400 cm aK)) (HG : Hid (w4.heap.size ≤ gm)) (HNE : Hid (gm ≠ m)) (hm8 : w8.cell? ⟨m, 0, none⟩ = some (.slice (some ⟨gm, 0, none⟩) 400 cm)) (HNQ : Hid (NoneV (.pointer (some ⟨q, 0, none⟩)) w8)) (v0 v1 v2 v3 v4 v5 v6 v7 v8 v9 v13 v15 v16 v17 v18 v19 v20 v21 v22 v23 v24 v25 v26 v27 v28 v29 v30 v31 v32 v33 v34 v35 v36 v37 v38 v39 v40 v41 v42 v43 v44 v45 v46 v47 v48 v49 v50 v51 v52 v53 v54 v55 v56 v57 v58 v59 v60 v61 v62 v63 v64 v65 v66 v67 v68 v69 v70 v71 v72 v73 v74 v75 v76 v77 v78 v79 v80 v81 v82 v83 v84 v85 v86 v87 v88 v89 v90 v91 v92 v93 v94 v95 v96 v97 v98 v99 v100 v101 v102 v103 v104 v105 v106 v107 v108 v109 v110 v111 v112 v113 v114 v115 v116 v117 v118 v119 v120 v121 v122 v123 v124 v125 v126 v127 v128 v129 v130 v131 v132 v133 v134 v135 v136 v137 v138 v139 v140 v141 v142 v143 v144 v145 v146 v147 v148 v149 v150 v151 v152 v153 v154 v155 v156 v157 v158 v159 v160 v161 v162 v163 v164 v165 v166 v167 v168 v169 v170 v171 v172 v173 v174 v175 v176 v177 v178 v179 v180 v181 v182 v183 v184 v185 v186 v187 v188 v189 v190 v191 v192 v193 v194 v195 v196 v197 v198 v199 v200 v201 v202 v203 v204 v205 v206 v207 v208 v209 v210 v211 v212 v213 v214 v215 v216 v217 v218 v219 v220 v221 v222 v223 v224 v225 v226 v227 v228 v229 v230 v231 v232 v233 v234 v235 v236 v237 v238 v239 v240 v241 v242 v243 v244 v245 v246 v247 v248 v249 v250 v251 v252 v253 v254 v255 v256 v257 : Value) (Q : Exit → Act → World → Prop)
    (HQ : Hid (∀ (u198 u199 u200 u201 u202 u203 u204 u205 u206 u207 u208 u209 u210 u211 u212 u213 u214 u215 u216 u217 u218 u219 u220 u221 u222 u223 u224 u225 u226 u227 u228 u229 u230 u231 u232 u233 u234 u235 u236 u237 u238 u239 u240 u241 u242 u243 u244 u245 u246 u247 u248 u249 u250 u251 u252 u253 u254 u255 u256 u257 : Value) (wx : World), Ok w4 wx → Q .normal ⟨#[.bool true, v1, v2, v3, v4, v5, v6, v7, v8, v9, .pointer (some ⟨m, 0, none⟩), .pointer none, .pointer (some ⟨q, 0, none⟩), v13, .bool false, v15, v16, v17, v18, v19, v20, v21, v22, v23, v24, v25, v26, v27, v28, v29, v30, v31, v32, v33, v34, v35, v36, v37, v38, v39, v40, v41, v42, v43, v44, v45, v46, v47, v48, v49, v50, v51, v52, v53, v54, v55, v56, v57, v58, v59, v60, v61, v62, v63, v64, v65, v66, v67, v68, v69, v70, v71, v72, v73, v74, v75, v76, v77, v78, v79, v80, v81, v82, v83, v84, v85, v86, v87, v88, v89, v90, v91, v92, v93, v94, v95, v96, v97, v98, v99, v100, v101, v102, v103, v104, v105, v106, v107, v108, v109, v110, v111, v112, v113, v114, v115, v116, v117, v118, v119, v120, v121, v122, v123, v124, v125, v126, v127, v128, v129, v130, v131, v132, v133, v134, v135, v136, v137, v138, v139, v140, v141, v142, v143, v144, v145, v146, v147, v148, v149, v150, v151, v152, v153, v154, v155, v156, v157, v158, v159, v160, v161, v162, v163, v164, v165, v166, v167, v168, v169, v170, v171, v172, v173, v174, v175, v176, v177, v178, v179, v180, v181, v182, v183, v184, v185, v186, v187, v188, v189, v190, v191, v192, v193, v194, v195, v196, v197, u198, u199, u200, u201, u202, u203, u204, u205, u206, u207, u208, u209, u210, u211, u212, u213, u214, u215, u216, u217, u218, u219, u220, u221, u222, u223, u224, u225, u226, u227, u228, u229, u230, u231, u232, u233, u234, u235, u236, u237, u238, u239, u240, u241, u242, u243, u244, u245, u246, u247, u248, u249, u250, u251, u252, u253, u254, u255, u256, u257], []⟩ wx)) :
    Code.wp Tryz.prog reg24 Q ⟨#[v0, v1, v2, v3, v4, v5, v6, v7, v8, v9, .pointer (some ⟨m, 0, none⟩), .pointer none, .pointer (some ⟨q, 0, none⟩), v13, .bool false, v15, v16, v17, v18, v19, v20, v21, v22, v23, v24, v25, v26, v27, v28, v29, v30, v31, v32, v33, v34, v35, v36, v37, v38, v39, v40, v41, v42, v43, v44, v45, v46, v47, v48, v49, v50, v51, v52, v53, v54, v55, v56, v57, v58, v59, v60, v61, v62, v63, v64, v65, v66, v67, v68, v69, v70, v71, v72, v73, v74, v75, v76, v77, v78, v79, v80, v81, v82, v83, v84, v85, v86, v87, v88, v89, v90, v91, v92, v93, v94, v95, v96, v97, v98, v99, v100, v101, v102, v103, v104, v105, v106, v107, v108, v109, v110, v111, v112, v113, v114, v115, v116, v117, v118, v119, v120, v121, v122, v123, v124, v125, v126, v127, v128, v129, v130, v131, v132, v133, v134, v135, v136, v137, v138, v139, v140, v141, v142, v143, v144, v145, v146, v147, v148, v149, v150, v151, v152, v153, v154, v155, v156, v157, v158, v159, v160, v161, v162, v163, v164, v165, v166, v167, v168, v169, v170, v171, v172, v173, v174, v175, v176, v177, v178, v179, v180, v181, v182, v183, v184, v185, v186, v187, v188, v189, v190, v191, v192, v193, v194, v195, v196, v197, v198, v199, v200, v201, v202, v203, v204, v205, v206, v207, v208, v209, v210, v211, v212, v213, v214, v215, v216, v217, v218, v219, v220, v221, v222, v223, v224, v225, v226, v227, v228, v229, v230, v231, v232, v233, v234, v235, v236, v237, v238, v239, v240, v241, v242, v243, v244, v245, v246, v247, v248, v249, v250, v251, v252, v253, v254, v255, v256, v257], []⟩ w8 := by
  conv => arg 2; whnf
  go_region_held3 (fun w' => w'.cell? ⟨m, 0, none⟩ = some (.slice (some ⟨gm, 0, none⟩) 400 cm))
    ((first | (refine Ok.cell ?_ hm8; (repeat (first | (with_reducible exact Ok.refl _) | (with_reducible assumption) | (with_reducible refine Ok.drew ?_) | (with_reducible refine Ok.alloc ?_ _) | ((with_reducible apply Ok.trans); rotate_left; (with_reducible assumption)))); done) | (refine Ok.cell ?_ hmk; (repeat (first | (with_reducible exact Ok.refl _) | (with_reducible assumption) | (with_reducible refine Ok.drew ?_) | (with_reducible refine Ok.alloc ?_ _) | ((with_reducible apply Ok.trans); rotate_left; (with_reducible assumption)))); done)))
    ((first
      | (go_at_call 9; (with_reducible refine ((nn_copy (.pointer none) _ (.nil _))).mono ?_); rintro _ wa ⟨rfl, oa⟩)
      | (go_at_call 9; (with_reducible refine ((nn_copy (.pointer (some ⟨q, 0, none⟩)) _ (HNQ.out.ok ?_))).mono ?_); (focus ((repeat (first | (with_reducible exact Ok.refl _) | (with_reducible assumption) | (with_reducible refine Ok.drew ?_) | (with_reducible refine Ok.alloc ?_ _) | ((with_reducible apply Ok.trans); rotate_left; (with_reducible assumption)))); done)); rintro _ wb ⟨rfl, ob⟩)
      | (go_at_call 20; (with_reducible refine ((nn_many (.pointer none) _ (.nil _))).mono ?_); rintro _ wc ⟨rfl, oc⟩)
      | (go_at_call 20; (with_reducible refine ((nn_many (.pointer (some ⟨q, 0, none⟩)) _ (HNQ.out.ok ?_))).mono ?_); (focus ((repeat (first | (with_reducible exact Ok.refl _) | (with_reducible assumption) | (with_reducible refine Ok.drew ?_) | (with_reducible refine Ok.alloc ?_ _) | ((with_reducible apply Ok.trans); rotate_left; (with_reducible assumption)))); done)); rintro _ wd ⟨rfl, od⟩)
      | (go_at_call 16; (with_reducible refine ((nn_in (.pointer none) _ _ _ (.nil _))).mono ?_); rintro _ we ⟨rfl, oe⟩)
      | (go_at_call 21; (with_reducible refine ((nn_take (.pointer (some ⟨q, 0, none⟩)) _ _ _ (HNQ.out.ok ?_))).mono ?_); (focus ((repeat (first | (with_reducible exact Ok.refl _) | (with_reducible assumption) | (with_reducible refine Ok.drew ?_) | (with_reducible refine Ok.alloc ?_ _) | ((with_reducible apply Ok.trans); rotate_left; (with_reducible assumption)))); done)); rintro _ wf ⟨rfl, of⟩)
      | (go_at_call 18; (with_reducible refine ((nn_put (.pointer none) _ _ _ _ (.nil _))).mono ?_); rintro _ wg ⟨rfl, og⟩)
      | (go_at_call 18; (with_reducible refine ((nn_put (.pointer (some ⟨q, 0, none⟩)) _ _ _ _ (HNQ.out.ok ?_))).mono ?_); (focus ((repeat (first | (with_reducible exact Ok.refl _) | (with_reducible assumption) | (with_reducible refine Ok.drew ?_) | (with_reducible refine Ok.alloc ?_ _) | ((with_reducible apply Ok.trans); rotate_left; (with_reducible assumption)))); done)); rintro _ wh ⟨rfl, oh⟩)
      | (go_at_call 22; (with_reducible refine (fin22 hk1 ?_).mono ?_); (focus ((repeat (first | (with_reducible exact Ok.refl _) | (with_reducible assumption) | (with_reducible refine Ok.drew ?_) | (with_reducible refine Ok.alloc ?_ _) | ((with_reducible apply Ok.trans); rotate_left; (with_reducible assumption)))); done)); rintro _ wl ⟨Ab, mb, cb, rfl, hgb, ol⟩)
      | (go_at_call 17; (with_reducible refine (fin17 hk2 hgb ?_ ?_).mono ?_); (focus ((repeat (first | (with_reducible exact Ok.refl _) | (with_reducible assumption) | (with_reducible refine Ok.drew ?_) | (with_reducible refine Ok.alloc ?_ _) | ((with_reducible apply Ok.trans); rotate_left; (with_reducible assumption)))); done)); (focus ((repeat (first | (with_reducible exact Ok.refl _) | (with_reducible assumption) | (with_reducible refine Ok.drew ?_) | (with_reducible refine Ok.alloc ?_ _) | ((with_reducible apply Ok.trans); rotate_left; (with_reducible assumption)))); done)); rintro _ wm ⟨rfl, om⟩)
      | (go_at_call 6; (with_reducible refine (awake_r _).mono ?_); rintro _ wn ⟨rfl, on⟩)
      | (refine step_appK ?hw (.tmp 248) (.tmp 250) ?ho w4.heap.size (some ⟨gm, 0, none⟩) 400 cm aK ?hs (HOWN.out.ok ?ok) ⟨?vb, 0, none⟩ 1 1 [zz] ?hk ?hx (RowsIn.one _ ?vb zz ?hv) ?hm ?hn ?hb 401 rfl ?hK; ((case hw => rfl); (case ho => rfl); (case hs => rfl); (case ok => (repeat (first | (with_reducible exact Ok.refl _) | (with_reducible assumption) | (with_reducible refine Ok.drew ?_) | (with_reducible refine Ok.alloc ?_ _) | ((with_reducible apply Ok.trans); rotate_left; (with_reducible assumption)))); done); (case hk => rfl); (case hx => rfl); (case hv => exact drew_new _ _); (case hm => decide); (case hn => decide); (case hb => refine le_ok HO8.out.size ?_; (repeat (first | (with_reducible exact Ok.refl _) | (with_reducible assumption) | (with_reducible refine Ok.drew ?_) | (with_reducible refine Ok.alloc ?_ _) | ((with_reducible apply Ok.trans); rotate_left; (with_reducible assumption)))); done)); intro A3 c3 wk hk1 hk2 hk3; obtain ⟨hok, hmk⟩ := app_ok HO8.out (by (repeat (first | (with_reducible exact Ok.refl _) | (with_reducible assumption) | (with_reducible refine Ok.drew ?_) | (with_reducible refine Ok.alloc ?_ _) | ((with_reducible apply Ok.trans); rotate_left; (with_reducible assumption)))); done) hk3 HG.out HNE.out hm8; clear hk3)
      | fail))
  refine HQ.out _ _ _ _ _ _ _ _ _ _ _ _ _ _ _ _ _ _ _ _ _ _ _ _ _ _ _ _ _ _ _ _ _ _ _ _ _ _ _ _ _ _ _ _ _ _ _ _ _ _ _ _ _ _ _ _ _ _ _ _ _ ?_
  exact Ok.trans hok (by (repeat (first | (with_reducible exact Ok.refl _) | (with_reducible assumption) | (with_reducible refine Ok.drew ?_) | (with_reducible refine Ok.alloc ?_ _) | ((with_reducible apply Ok.trans); rotate_left; (with_reducible assumption)))); done)
set_option maxRecDepth 100000 in
set_option maxHeartbeats 8000000 in
theorem ends_law (W : World) : Calls Tryz.prog 4 #[] W (Ret W (.bool true)) := by
  go_enter Tryz.func4, Tryz.ntmps4
  go_upto_region 2 with fail
  go_cut [2] from 15 to 18 (fun v wx => OddP W v wx)
  case first =>
    go_wp2_with fail
    go_meet
    exact oddP_new W _ _ (by kernel_rfl)
  case rest =>
  obtain ⟨a, rfl, ho, ok1⟩ := hcut
  have HO := Lib.hid ho
  have HK1 := Lib.hid ok1
  obtain ⟨w1, hw1⟩ : ∃ v, v = wc := ⟨_, rfl⟩
  subst hw1
  clear ho ok1
  go_upto_region 3 with fail
  go_cut [3] from 19 to 33 (fun v wx => SpP W a v wx)
  case first =>
    go_wp2_with fail
    go_meet
    exact spP_new W _ a HO.out HK1.out _ _ (by kernel_rfl)
  case rest =>
  obtain ⟨b, rfl, hl, ok2⟩ := hcut
  have HL := Lib.hid hl
  have HK2 := Lib.hid ok2
  obtain ⟨w2, hw2⟩ : ∃ v, v = wc := ⟨_, rfl⟩
  subst hw2
  clear hl ok2 HO HK1
  go_wp2_with fail
  go_loopw [4, 5, 6] (fun v4 _ _ wr => ∃ i : Nat, i ≤ 12 ∧ v4 = .int .i64 i ∧ Ok w2 wr) (fun v4 _ _ _ => 12 - (intOf v4).toNat)
  case atStart => exact ⟨0, by decide, rfl, Ok.refl _⟩
  case round =>
    obtain ⟨i, hi, rfl, okr⟩ := hrel
    have HR := Lib.hid okr
    clear okr
    by_cases hlt : i < 12
    · have d1 : decide ((i : Int) < 12) = true := decide_eq_true (by omega)
      have d1n : decide (i < 12) = true := decide_eq_true (by omega)
      have ei : IntKind.i64.wrap ((i : Int) + 1) = (i : Int) + 1 := IntWalk.i64_in _ (by omega)
      have HLT : Hid (12 - ((i : Int) + 1).toNat < 12 - (i : Int).toNat) := Lib.hid (by omega)
      go_wp2_with fail
      go_loopw [5, 6] (fun v5 _ wr => ∃ k : Nat, k ≤ 12 ∧ v5 = .int .i64 k ∧ Ok w2 wr) (fun v5 _ _ => 12 - (intOf v5).toNat)
      case atStart => exact ⟨0, by decide, rfl, HR.out⟩
      case round =>
        obtain ⟨k, hk, rfl, okr⟩ := hrel
        obtain ⟨w3, hw3⟩ : ∃ v, v = wr := ⟨_, rfl⟩
        subst hw3
        have HR3 := Lib.hid okr
        clear okr HR
        by_cases hlk : k < 12
        · have d2 : decide ((k : Int) < 12) = true := decide_eq_true (by omega)
          have d2n : decide (k < 12) = true := decide_eq_true (by omega)
          have ek : IntKind.i64.wrap ((k : Int) + 1) = (k : Int) + 1 := IntWalk.i64_in _ (by omega)
          have HLK : Hid (12 - ((k : Int) + 1).toNat < 12 - (k : Int).toNat) := Lib.hid (by omega)
          have eik : IntKind.i64.wrap ((i : Int) + (k : Int)) = (i : Int) + (k : Int) := IntWalk.i64_in _ (by omega)
          have HL3 := Lib.hid (HL.out.ok HR3.out)
          have xi := HL3.out.odd i hlt
          have xk := HL3.out.odd k hlk
          have HSI := Lib.hid (odd_small i hlt)
          have HSK := Lib.hid (odd_small k hlk)
          generalize oddA i = zi at *
          generalize oddA k = zk at *
          obtain ⟨j, hj⟩ : ∃ j, j = (i + k) % 10 := ⟨_, rfl⟩
          have hj10 : j < 10 := by omega
          have et : Int.tmod ((i : Int) + (k : Int)) 10 = (j : Int) := by rw [hj, Int.tmod_eq_emod_of_nonneg (by omega)]; omega
          have xl := HL3.out.lo j hj10
          have xh := HL3.out.hi j hj10
          have HSJ := Lib.hid (sp_small j hj10)
          generalize (spA j).lo = lo at *
          generalize (spA j).hi = hi' at *
          have i0 : (0 : Int) ≤ (i : Int) := Int.natCast_nonneg _
          have i1 : (i : Int) < 12 := by omega
          have k0 : (0 : Int) ≤ (k : Int) := Int.natCast_nonneg _
          have k1 : (k : Int) < 12 := by omega
          have j0 : (0 : Int) ≤ (j : Int) := Int.natCast_nonneg _
          have j1 : (j : Int) < 10 := by omega
          clear hj hj10 hlt hlk hk hi
          go_upto_region 10 with fail
          go_cut [6] from 46 to 84 (fun v wx => Dl w3 v wx)
          case first =>
            refine reg10_w w3 a b i k j zi zk lo hi' xi xk xl xh HSI HSK HSJ eik et i0 i1 k0 k1 j0 j1 _ _ _ _ _ _ _ _ _ _ _ _ _ _ _ _ _ _ _ _ _ _ _ _ _ _ _ _ _ _ _ _ _ _ _ _ _ _ _ _ _ _ _ _ _ _ _ _ _ _ _ _ _ _ _ _ _ _ _ _ _ _ _ _ _ _ _ _ _ _ _ _ _ _ _ _ _ _ _ _ _ _ _ _ _ _ _ _ _ _ _ _ _ _ _ _ _ _ _ _ _ _ _ _ _ _ _ _ _ _ _ _ _ _ _ _ _ _ _ _ _ _ _ _ _ _ _ _ _ _ _ _ _ _ _ _ _ _ _ _ _ _ _ _ _ _ _ _ _ _ _ _ _ _ _ _ _ _ _ _ _ _ _ _ _ _ _ _ _ _ _ _ _ _ _ _ _ _ _ _ _ _ _ _ _ _ _ _ _ _ _ _ _ _ _ _ _ _ _ _ _ _ _ _ _ _ _ _ _ _ _ _ _ _ _ _ _ _ _ _ _ _ _ _ _ _ _ _ _ _ _ _ _ _ _ _ _ _ _ _ _ _ _ _ _ _ _ _ _ _ _ _ _ _ _ (Lib.hid ?_)
            intro _ _ _ _ _ _ _ _ _ _ _ _ _ _ _ _ _ _ _ _ _ _ _ _ _ _ _ _ _ _ _ _ _ _ _ _ _ _ _ v6x wx hdl
            (try simp only [Exit.then])
            go_wp2_with fail
            go_meet
            exact hdl
          case rest =>
          have HD := Lib.hid hcut
          obtain ⟨w4, hw4⟩ : ∃ v, v = wc := ⟨_, rfl⟩
          subst hw4
          have o4 : Ok w3 w4 := by obtain ⟨_, _, _, _, _, _, o⟩ := HD.out; exact o
          have HO4 := Lib.hid (HR3.out.trans o4)
          have HL4 := Lib.hid (HL3.out.ok o4)
          have yi := o4.cell xi
          have yk := o4.cell xk
          clear o4 xi xk xl xh hcut et eik
          have h3 := fun (V : World) (z : Nat) (k : Ok w4 V) => runs_own HD.out a b HL4.out (i : Int) zk zi HSI.out HSK.out z k
          have h17 := fun (V : World) (z : Nat) => bytes_own V zi zk HSI.out HSK.out z
          have H3 := Lib.hid h3
          have H17 := Lib.hid h17
          clear h3 h17
          go_upto_region 11 with fail
          go_region_held3 (fun w' => w'.cell? ⟨a, i, none⟩ = some (.string zi) ∧ w'.cell? ⟨a, k, none⟩ = some (.string zk))
            ((refine ⟨Ok.cell ?_ yi, Ok.cell ?_ yk⟩ <;> (repeat (first | (with_reducible exact Ok.refl _) | (with_reducible assumption) | (with_reducible refine Ok.drew ?_) | (with_reducible refine Ok.alloc ?_ _) | ((with_reducible apply Ok.trans); rotate_left; (with_reducible assumption)))); done))
            ((first
              | (go_at_call 3; (with_reducible refine (H3.out _ _ ?_ ?_).mono ?_); (exact ((Ok.refl _).alloc _).drew); (exact drew_new _ _); rintro _ w5 ⟨rfl, o5⟩)
              | (go_at_call 17; (with_reducible refine (H17.out _ _ ?_).mono ?_); (exact drew_new _ _); rintro _ w6 ⟨rfl, o6⟩)))
          all_goals (go_wp2_with fail)
          exact ⟨⟨k + 1, by omega, rfl, HO4.out.trans (by (repeat (first | (with_reducible exact Ok.refl _) | (with_reducible assumption) | (with_reducible refine Ok.drew ?_) | (with_reducible refine Ok.alloc ?_ _) | ((with_reducible apply Ok.trans); rotate_left; (with_reducible assumption)))); done)⟩, HLK.out⟩
        · have d2 : decide ((k : Int) < 12) = false := decide_eq_false (by omega)
          have d2n : decide (k < 12) = false := decide_eq_false (by omega)
          go_wp2_with fail
          exact ⟨⟨i + 1, by omega, rfl, HR3.out⟩, HLT.out⟩
    · have d1 : decide ((i : Int) < 12) = false := decide_eq_false (by omega)
      have d1n : decide (i < 12) = false := decide_eq_false (by omega)
      obtain ⟨w3, hw3⟩ : ∃ v, v = wr := ⟨_, rfl⟩
      subst hw3
      have HW3 := Lib.hid (HK2.out.trans HR.out)
      clear HL HK2 HR hlt hi
      go_wp2_with fail
      clear d1 d1n
      go_loopw [7, 8] (fun v7 v8 wr => ∃ (i : Nat) (A : Option Addr) (c : Nat), i ≤ 401 ∧ v8 = .int .i64 i ∧ v7 = .slice A i c ∧ OwnR wr w3.heap.size A i c (rowsK i) ∧ Ok w3 wr) (fun _ v8 _ => 401 - (intOf v8).toNat)
      case atStart => exact ⟨0, none, 0, by decide, rfl, rfl, ⟨rfl, World.ownsRow_nil _ _ _ _⟩, Ok.refl _⟩
      case round =>
        obtain ⟨i, A, c, hi, rfl, rfl, hown, okr⟩ := hrel
        have HOW := Lib.hid hown
        have HR := Lib.hid okr
        clear hown okr
        by_cases hlt : i < 401
        · have d1 : decide ((i : Int) < 401) = true := decide_eq_true (by omega)
          have d1n : decide (i < 401) = true := decide_eq_true (by omega)
          have ei : IntKind.i64.wrap ((i : Int) + 1) = (i : Int) + 1 := IntWalk.i64_in _ (by omega)
          have HLT : Hid (401 - ((i : Int) + 1).toNat < 401 - (i : Int).toNat) := Lib.hid (by omega)
          have HI : Hid (i < 401) := Lib.hid hlt
          have hcv := kS_cv wr i hlt
          have HB : Hid (∀ B : Obj, Ok wr (wr.alloc B)) := Lib.hid fun B => (Ok.refl wr).alloc B
          have HS : Hid (rowsK (i + 1) = rowsK i ++ [⟨kS i, ⟨#[]⟩⟩]) := Lib.hid (rowsK_succ i)
          generalize kS i = key at *
          have HX : Hid (∀ B : Obj, RowsIn ((wr.alloc B).alloc (.cells #[.string key, .string ⟨#[]⟩] 48)) (some ⟨wr.heap.size + 1, 0, none⟩) [⟨key, ⟨#[]⟩⟩] ∧ OwnR ((wr.alloc B).alloc (.cells #[.string key, .string ⟨#[]⟩] 48)) w3.heap.size A i c (rowsK i) ∧ Ok w3 ((wr.alloc B).alloc (.cells #[.string key, .string ⟨#[]⟩] 48))) := Lib.hid fun B => by
            have hnew := heap_alloc_new (wr.alloc B) (.cells #[.string key, .string ⟨#[]⟩] 48)
            rw [World.size_alloc] at hnew
            exact ⟨RowsIn.one _ _ ⟨key, ⟨#[]⟩⟩ hnew, HOW.out.ok ((HB.out B).alloc _), HR.out.trans ((HB.out B).alloc _)⟩
          have t1 : Int.tdiv (i : Int) 26 = ((i / 26 : Nat) : Int) := by rw [Int.tdiv_eq_ediv_of_nonneg (by omega)]; omega
          go_wp2_with (at_builtin; go_must (refine wpList_appRN rfl (.tmp 119) (.tmp 136) rfl w3.heap.size A i c (rowsK i) rfl (HX.out _).2.1 _ 1 1 [⟨key, ⟨#[]⟩⟩] rfl rfl (fun e => by cases e) (HX.out _).1 (by have := HI.out; omega) (HX.out _).2.2.size ?_; intro A3 c3 w5 hown3 hbel3; have HOW3 := Lib.hid hown3; have HB3 : Hid (Ok w3 w5) := Lib.hid (Below.trans (HX.out _).2.2 (grownBy_below hbel3 (fun j e => (HOW.out.2.lt j e).1) (HX.out _).2.2.size)); clear hown3 hbel3))
          exact ⟨⟨i + 1, A3, c3, HI.out, by go_num, rfl, by rw [HS.out]; exact HOW3.out, HB3.out⟩, HLT.out⟩
        · have d1 : decide ((i : Int) < 401) = false := decide_eq_false (by omega)
          have d1n : decide (i < 401) = false := decide_eq_false (by omega)
          obtain rfl : i = 401 := by omega
          clear hlt hi
          obtain ⟨w4, hw4⟩ : ∃ v, v = wr := ⟨_, rfl⟩
          subst hw4
          go_wp2_with fail
          clear d1 d1n
          obtain ⟨g, rfl, hcap, hg⟩ := HOW.out.form (by omega)
          have HRA := Lib.hid HOW.out.rows
          have HW4 := Lib.hid (HW3.out.trans HR.out)
          have hnew := Lib.hid (new44 w4)
          clear HOW HR HW3
          (with_reducible refine hnew.out.mono ?_)
          clear hnew
          rintro _ w5 ⟨p, rfl, hp, ht, o5⟩
          have HPT := Lib.hid (pt_new ht hp o5)
          clear hp ht o5 hg
          obtain ⟨m, hm⟩ : ∃ m, w5.heap.size = m := ⟨_, rfl⟩
          rw [hm] at HPT
          have HC := Lib.hid (ptH w4 p m g c HRA.out)
          have hc1 : ¬ (c = 1) := by omega
          have hc5 : ¬ (c = 5) := by omega
          have hc0 : ¬ (c = 0) := by omega
          have hcap1 : (1 : Int) ≤ (c : Int) := by omega
          have hcap9 : (9 : Int) ≤ (c : Int) := by omega
          clear HRA
          go_upto_region 19 with fail
          clear hm
          generalize w5.alloc (.cells #[.slice none 0 0] 31) = w6 at *
          go_cut [191] from 141 to 191 (fun v wx => v = .bool false ∧ Pt w4 p m aK aK wx)
          case first =>
            refine reg19_w w4 w6 p m g c HC HPT hc1 hc5 hc0 hcap1 hcap9 _ _ _ _ _ _ _ _ _ _ _ _ _ _ _ _ _ _ _ _ _ _ _ _ _ _ _ _ _ _ _ _ _ _ _ _ _ _ _ _ _ _ _ _ _ _ _ _ _ _ _ _ _ _ _ _ _ _ _ _ _ _ _ _ _ _ _ _ _ _ _ _ _ _ _ _ _ _ _ _ _ _ _ _ _ _ _ _ _ _ _ _ _ _ _ _ _ _ _ _ _ _ _ _ _ _ _ _ _ _ _ _ _ _ _ _ _ _ _ _ _ _ _ _ _ _ _ _ _ _ _ _ _ _ _ _ _ _ _ _ _ _ _ _ _ _ _ _ _ _ _ _ _ _ _ _ _ _ _ _ _ _ _ _ _ _ _ _ _ _ _ _ _ _ _ _ _ _ _ _ _ _ _ _ _ _ _ _ _ _ _ _ _ _ _ _ _ _ _ _ _ _ _ _ _ _ _ _ _ _ _ _ _ _ _ _ _ _ _ _ _ _ _ _ _ _ _ _ _ _ _ _ _ _ _ _ _ _ _ _ _ _ _ _ _ _ _ _ _ _ _ _ _ _ _ _ (Lib.hid ?_)
            intro _ _ _ _ _ _ _ _ _ _ _ _ _ _ _ _ _ _ _ _ _ _ _ _ _ _ _ _ _ _ _ _ _ _ _ _ _ _ _ _ _ _ _ _ _ _ _ _ _ _ wx tj
            (try simp only [Exit.then])
            go_wp2_with fail
            go_meet
            exact ⟨rfl, tj⟩
          case rest =>
          obtain ⟨rfl, tj⟩ := hcut
          obtain ⟨wj, hwj⟩ : ∃ v, v = wc := ⟨_, rfl⟩
          subst hwj
          obtain ⟨Ap, cp, Am, nm, cm, -, hrf, -, -, how⟩ := tj.ex
          have hnm : nm = 400 := by have := hrf.len; rw [aK_len] at this; exact this.symm
          subst hnm
          have how' : OwnR wj w4.heap.size Am 400 cm aK := by
            rcases how with ⟨e, _⟩ | e
            · exfalso
              have := aK_len
              rw [e] at this
              cases this
            · exact e
          obtain ⟨gm, rfl, hcm, hgm⟩ := how'.form (by omega)
          have HG : Hid (w4.heap.size ≤ gm) := Lib.hid hgm
          have HNE : Hid (gm ≠ m) := Lib.hid (hrf.ne _ rfl)
          have hmj := hrf.c0
          have hokj := tj.ok
          clear tj hrf how HC HPT
          go_wp2_with fail
          obtain ⟨q, hq⟩ : ∃ q, wj.heap.size = q := ⟨_, rfl⟩
          have hnq : NoneV (.pointer (some ⟨q, 0, none⟩)) (wj.alloc (.cells #[.slice none 0 0, .bool false] 58)) := .at (by rw [cell_at (blk_new hq)]; rfl)
          have oa : Ok wj (wj.alloc (.cells #[.slice none 0 0, .bool false] 58)) := (Ok.refl wj).alloc _
          rw [hq]
          generalize wj.alloc (.cells #[.slice none 0 0, .bool false] 58) = w7 at *
          (with_reducible refine (nn_get (.pointer none) _ w7 (.nil _)).mono ?_)
          rintro _ w8 ⟨rfl, o8⟩
          have HO8 := Lib.hid (hokj.trans (oa.trans o8))
          have HOWN := Lib.hid ((how'.ok oa).ok o8)
          have hm8 := o8.cell (oa.cell hmj)
          have HNQ := Lib.hid (hnq.ok o8)
          clear hmj hokj how' hnq oa o8 hq
          go_upto_region 24 with fail
          refine reg24_w w4 w8 m q gm cm HO8 HOWN HG HNE hm8 HNQ _ _ _ _ _ _ _ _ _ _ _ _ _ _ _ _ _ _ _ _ _ _ _ _ _ _ _ _ _ _ _ _ _ _ _ _ _ _ _ _ _ _ _ _ _ _ _ _ _ _ _ _ _ _ _ _ _ _ _ _ _ _ _ _ _ _ _ _ _ _ _ _ _ _ _ _ _ _ _ _ _ _ _ _ _ _ _ _ _ _ _ _ _ _ _ _ _ _ _ _ _ _ _ _ _ _ _ _ _ _ _ _ _ _ _ _ _ _ _ _ _ _ _ _ _ _ _ _ _ _ _ _ _ _ _ _ _ _ _ _ _ _ _ _ _ _ _ _ _ _ _ _ _ _ _ _ _ _ _ _ _ _ _ _ _ _ _ _ _ _ _ _ _ _ _ _ _ _ _ _ _ _ _ _ _ _ _ _ _ _ _ _ _ _ _ _ _ _ _ _ _ _ _ _ _ _ _ _ _ _ _ _ _ _ _ _ _ _ _ _ _ _ _ _ _ _ _ _ _ _ _ _ _ _ _ _ _ _ _ _ _ _ _ _ _ _ _ _ _ _ _ _ _ _ _ (Lib.hid ?_)
          intro _ _ _ _ _ _ _ _ _ _ _ _ _ _ _ _ _ _ _ _ _ _ _ _ _ _ _ _ _ _ _ _ _ _ _ _ _ _ _ _ _ _ _ _ _ _ _ _ _ _ _ _ _ _ _ _ _ _ _ _ wx okx
          (try simp only [Exit.then])
          go_wp2_with fail
          go_ret
          exact ⟨rfl, HW4.out.trans okx⟩
end Go.Proofs.YtebhcadolnjplaaGreat
