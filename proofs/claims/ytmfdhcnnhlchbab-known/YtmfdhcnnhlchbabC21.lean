import Derived.Test.YtmfdhcnnhlchbabC20
namespace Go.Proofs.Ytmfdhcnnhlchbab
open Go.RowKit Go.Maps

set_option maxRecDepth 100000 in
set_option maxHeartbeats 40000000 in
theorem known_l {w W : World} {x gg : Nat} {lab0 : Nat → Nat} (hRow : W.heap[gg]? = some (.cells (dosB.flatMap Dos.cells).toArray tDo (0, 0))) (hl0 : lab0 gg = 0) (hR0 : RunAt x lab0 W (newMod 100) dosB 0 W)
    (fin0 : Hid (∀ lab' wr u, StepB x lab0 lab' W wr → wr.grownBy u none → w.grownBy u none)) {t0 t1 t2 t4 t5 t6 t7 t8 t9 t10 t11 t12 t13 t14 t15 t16 t17 t18 t19 t20 t21 t22 t23 t24 t25 t26 t27 t28 t29 t30 t31 t32 t33 t34 t35 t36 t37 t38 t39 t40 t41 t42 t43 t44 t45 t46 t47 t48 t49 t50 t51 t52 t53 t54 t55 t56 t57 t58 t59 t60 t61 t62 t63 t64 t65 t66 t67 t68 t69 t70 t71 t72 t73 t74 t75 t76 t77 t78 t79 t80 t81 t82 t83 t84 t85 t86 t87 t88 t89 t90 t91 t92 t93 t94 t95 t96 t97 t98 t99 t100 t101 t102 t103 t104 t105 t106 t107 t108 t109 t110 t111 t112 t113 t114 t115 t116 t117 t118 t119 t120 t121 t122 t123 t124 t125 t126 t127 t128 t129 t130 t131 t132 t133 t134 t135 t136 t137 t138 t139 t140 t141 t142 t143 t144 t145 t146 t147 t148 t149 t150 t151 t152 t153 t154 t155 t156 t157 t158 t159 t160 t161 t162 t163 t164 t168 t169 t170 t171 t172 t173 t174 t175 t176 t177 t178 t179 t180 t181 t182 t183 t184 t185 t186 t187 t188 t189 t190 t191 t192 t193 t194 t195 t196 t197 t198 t199 t200 t201 t202 t203 t204 t205 t206 t207 t208 t209 t210 t211 t212 t213 t214 t215 t216 t217 t218 t219 t220 t221 t222 t223 t224 t225 t226 t227 t228 t229 t230 t231 t232 t233 t234 t235 t236 t237 t238 t239 t240 t241 t242 t243 t244 t245 t246 t247 t248 t249 t250 t251 t252 t253 t254 t255 t256 t257 t258 t259 t260 t261 t262 t263 t264 t265 t266 t267 t268 t269 t270 t271 t272 t273 t274 t275 t276 t277 t278 t279 t280 t281 t282 t283 t284 t285 t286 t287 t288 t289 t290 t291 t292 t293 t294 t295 t296 t297 t298 t299 t300 t301 t302 t303 t304 t305 t306 t307 t308 t309 t310 t311 t312 t313 t314 t315 t316 t317 t318 t319 t320 t321 t322 t323 t324 t325 t326 t327 t328 t329 t330 t331 t332 t333 t334 t335 t336 t337 t338 t339 t340 t341 t342 t343 t344 t345 t346 t347 t348 t349 t350 t351 t352 : Value}
    (K : Act → World → Prop) (hK : ∀ a u, Code.wp Try.prog (rest14 Try.f4) (bodyPost Try.prog Try.f4 fun e w' => e = .returned (.bool true) ∧ w.grownBy w' none) a u → K a u) : Code.wp Try.prog (block0 Try.f4) (Exit.then K (bodyPost Try.prog Try.f4 fun e w' => e = .returned (.bool true) ∧ w.grownBy w' none)) { tmps := #[t0, t1, t2, .pointer (some ⟨x, 0, none⟩), t4, t5, t6, t7, t8, t9, t10, t11, t12, t13, t14, t15, t16, t17, t18, t19, t20, t21, t22, t23, t24, t25, t26, t27, t28, t29, t30, t31, t32, t33, t34, t35, t36, t37, t38, t39, t40, t41, t42, t43, t44, t45, t46, t47, t48, t49, t50, t51, t52, t53, t54, t55, t56, t57, t58, t59, t60, t61, t62, t63, t64, t65, t66, t67, t68, t69, t70, t71, t72, t73, t74, t75, t76, t77, t78, t79, t80, t81, t82, t83, t84, t85, t86, t87, t88, t89, t90, t91, t92, t93, t94, t95, t96, t97, t98, t99, t100, t101, t102, t103, t104, t105, t106, t107, t108, t109, t110, t111, t112, t113, t114, t115, t116, t117, t118, t119, t120, t121, t122, t123, t124, t125, t126, t127, t128, t129, t130, t131, t132, t133, t134, t135, t136, t137, t138, t139, t140, t141, t142, t143, t144, t145, t146, t147, t148, t149, t150, t151, t152, t153, t154, t155, t156, t157, t158, t159, t160, t161, t162, t163, t164, .slice (some ⟨gg, 0, none⟩) 59 59, .int .i64 59, .int .i64 0, t168, t169, t170, t171, t172, t173, t174, t175, t176, t177, t178, t179, t180, t181, t182, t183, t184, t185, t186, t187, t188, t189, t190, t191, t192, t193, t194, t195, t196, t197, t198, t199, t200, t201, t202, t203, t204, t205, t206, t207, t208, t209, t210, t211, t212, t213, t214, t215, t216, t217, t218, t219, t220, t221, t222, t223, t224, t225, t226, t227, t228, t229, t230, t231, t232, t233, t234, t235, t236, t237, t238, t239, t240, t241, t242, t243, t244, t245, t246, t247, t248, t249, t250, t251, t252, t253, t254, t255, t256, t257, t258, t259, t260, t261, t262, t263, t264, t265, t266, t267, t268, t269, t270, t271, t272, t273, t274, t275, t276, t277, t278, t279, t280, t281, t282, t283, t284, t285, t286, t287, t288, t289, t290, t291, t292, t293, t294, t295, t296, t297, t298, t299, t300, t301, t302, t303, t304, t305, t306, t307, t308, t309, t310, t311, t312, t313, t314, t315, t316, t317, t318, t319, t320, t321, t322, t323, t324, t325, t326, t327, t328, t329, t330, t331, t332, t333, t334, t335, t336, t337, t338, t339, t340, t341, t342, t343, t344, t345, t346, t347, t348, t349, t350, t351, t352], defers := [] } W := by
  simp only [block0, kBody, Try.f4, Option.getD_some, seqR, seqL]
  simp only [rest14, kBody, Try.f4, Option.getD_some, seqR] at hK
  have hd59 : dosB.length = 59 := rfl
  go_wp2_with fail
  go_loopw [167] (fun i wr => ∃ k : Nat, i = .int .i64 k ∧ k ≤ 59 ∧ RunAt x lab0 W (newMod 100) dosB k wr) (fun i _ => 59 - (intOf i).toNat)
  case atStart => exact ⟨0, rfl, Nat.zero_le _, hR0⟩
  case round =>
    obtain ⟨k, rfl, hk, hR⟩ := hrel
    by_cases hlt : k < 59
    · have hkl : (k : Int) < 59 := by omega
      obtain ⟨d, hd⟩ : ∃ d, dosB[k]? = some d := ⟨dosB[k], List.getElem?_eq_getElem (by omega)⟩
      have hrow : wr.heap[gg]? = some (.cells (dosB.flatMap Dos.cells).toArray tDo (0, 0)) := by
        obtain ⟨_, _, _, _, _, _, st, _⟩ := hR
        exact (st.block _ (blk_lt hRow) hl0).trans hRow
      obtain ⟨z0, z1, z2, z3, z4, z5, z6, z7, z8, z9, z10, z11⟩ := dos_cells hrow hd
      have hzr := blk_lt hrow
      go_wp2_with fail
      obtain ⟨w2, hw2⟩ : ∃ w2 : World, w2 = wr.alloc (.cells d.arr tDo) := ⟨_, rfl⟩
      rw [← hw2]
      have g2 : wr.grownBy w2 none := by rw [hw2]; exact World.grownBy_alloc _ _ _
      have hX2 : w2.heap[wr.heap.size]? = some (.cells d.arr tDo (0, 0)) := by rw [hw2]; exact heap_alloc_new wr _
      clear hw2 z0 z1 z2 z3 z4 z5 z6 z7 z8 z9 z10 z11
      obtain ⟨x0, x1, x2, x3, x4, x5, x6, x7, x8, x9, x10, x11, xf⟩ := blk12c hX2
      have hstep := run_step hR (by omega) dosB_ok hd g2
      have z2l := blk_lt hX2
      go_wp2_with fail
      refine hstep.mono ?_
      rintro e w3 ⟨rfl, hR3, hkeep⟩
      have hX3 := (hkeep _ (Nat.le_refl _) z2l).trans hX2
      clear x0 x1 x2 x3 x4 x5 x6 x7 x8 x9 x10 x11 xf
      obtain ⟨x0, x1, x2, x3, x4, x5, x6, x7, x8, x9, x10, x11, xf⟩ := blk12c hX3
      go_wp2_with fail
      go_roundw
      case rel => exact ⟨k + 1, by go_num, by omega, hR3⟩
      case measure => simp [intOf]; omega
    · have hke : k = 59 := by omega
      subst hke
      obtain ⟨lab', b0, b1, k0, k1, hB, st, t0, t1⟩ := hR
      have fin : Hid (∀ u, wr.grownBy u none → w.grownBy u none) := fun u gu => fin0.out lab' wr u st gu
      go_upto_region 14 with fail
      exact known_b hB fin _ (by assumption)

end Go.Proofs.Ytmfdhcnnhlchbab
