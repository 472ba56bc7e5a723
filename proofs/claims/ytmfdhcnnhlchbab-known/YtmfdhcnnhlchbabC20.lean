import Derived.Test.YtmfdhcnnhlchbabC19
namespace Go.Proofs.Ytmfdhcnnhlchbab
open Go.RowKit Go.Maps

set_option maxRecDepth 100000 in
set_option maxHeartbeats 40000000 in
theorem known_b {w wr : World} {x : Nat} {lab : Nat → Nat} {a0 a1 : DAt} {K0 K1 : Hd} (hB : Br lab wr x endB a0 a1 K0 K1 242) (fin : Hid (∀ u, wr.grownBy u none → w.grownBy u none)) {t0 t1 t2 t4 t5 t6 t7 t8 t9 t10 t11 t12 t13 t14 t15 t16 t17 t18 t19 t20 t21 t22 t23 t24 t25 t26 t27 t28 t29 t30 t31 t32 t33 t34 t35 t36 t37 t38 t39 t40 t41 t42 t43 t44 t45 t46 t47 t48 t49 t50 t51 t52 t53 t54 t55 t56 t57 t58 t59 t60 t61 t62 t63 t64 t65 t66 t67 t68 t69 t70 t71 t72 t73 t74 t75 t76 t77 t78 t79 t80 t81 t82 t83 t84 t85 t86 t87 t88 t89 t90 t91 t92 t93 t94 t95 t96 t97 t98 t99 t100 t101 t102 t103 t104 t105 t106 t107 t108 t109 t110 t111 t112 t113 t114 t115 t116 t117 t118 t119 t120 t121 t122 t123 t124 t125 t126 t127 t128 t129 t130 t131 t132 t133 t134 t135 t136 t137 t138 t139 t140 t141 t142 t143 t144 t145 t146 t147 t148 t149 t150 t151 t152 t153 t154 t155 t156 t157 t158 t159 t160 t161 t162 t163 t164 t165 t166 t167 t168 t169 t170 t171 t172 t173 t174 t175 t176 t177 t178 t179 t180 t181 t182 t183 t184 t185 t186 t187 t188 t189 t190 t191 t192 t193 t194 t195 t196 t197 t198 t199 t200 t201 t202 t203 t204 t205 t206 t207 t208 t209 t210 t211 t212 t213 t214 t215 t216 t217 t218 t219 t220 t221 t222 t223 t224 t225 t226 t227 t228 t229 t230 t231 t232 t233 t234 t235 t236 t237 t238 t239 t240 t241 t242 t243 t244 t245 t246 t247 t248 t249 t250 t251 t252 t253 t254 t255 t256 t257 t258 t259 t260 t261 t262 t263 t264 t265 t266 t267 t268 t269 t270 t271 t272 t273 t274 t275 t276 t277 t278 t279 t280 t281 t282 t283 t284 t285 t286 t287 t288 t289 t290 t291 t292 t293 t294 t295 t296 t297 t298 t299 t300 t301 t302 t303 t304 t305 t306 t307 t308 t309 t310 t311 t312 t313 t314 t315 t316 t317 t318 t319 t320 t321 t322 t323 t324 t325 t326 t327 t328 t329 t330 t331 t332 t333 t334 t335 t336 t337 t338 t339 t340 t341 t342 t343 t344 t345 t346 t347 t348 t349 t350 t351 t352 : Value}
    (K : Act → World → Prop) (hK : ∀ a u, Code.wp Try.prog (rest15 Try.f4) (bodyPost Try.prog Try.f4 fun e w' => e = .returned (.bool true) ∧ w.grownBy w' none) a u → K a u) : Code.wp Try.prog (head14 Try.f4) (Exit.then K (bodyPost Try.prog Try.f4 fun e w' => e = .returned (.bool true) ∧ w.grownBy w' none)) { tmps := #[t0, t1, t2, .pointer (some ⟨x, 0, none⟩), t4, t5, t6, t7, t8, t9, t10, t11, t12, t13, t14, t15, t16, t17, t18, t19, t20, t21, t22, t23, t24, t25, t26, t27, t28, t29, t30, t31, t32, t33, t34, t35, t36, t37, t38, t39, t40, t41, t42, t43, t44, t45, t46, t47, t48, t49, t50, t51, t52, t53, t54, t55, t56, t57, t58, t59, t60, t61, t62, t63, t64, t65, t66, t67, t68, t69, t70, t71, t72, t73, t74, t75, t76, t77, t78, t79, t80, t81, t82, t83, t84, t85, t86, t87, t88, t89, t90, t91, t92, t93, t94, t95, t96, t97, t98, t99, t100, t101, t102, t103, t104, t105, t106, t107, t108, t109, t110, t111, t112, t113, t114, t115, t116, t117, t118, t119, t120, t121, t122, t123, t124, t125, t126, t127, t128, t129, t130, t131, t132, t133, t134, t135, t136, t137, t138, t139, t140, t141, t142, t143, t144, t145, t146, t147, t148, t149, t150, t151, t152, t153, t154, t155, t156, t157, t158, t159, t160, t161, t162, t163, t164, t165, t166, t167, t168, t169, t170, t171, t172, t173, t174, t175, t176, t177, t178, t179, t180, t181, t182, t183, t184, t185, t186, t187, t188, t189, t190, t191, t192, t193, t194, t195, t196, t197, t198, t199, t200, t201, t202, t203, t204, t205, t206, t207, t208, t209, t210, t211, t212, t213, t214, t215, t216, t217, t218, t219, t220, t221, t222, t223, t224, t225, t226, t227, t228, t229, t230, t231, t232, t233, t234, t235, t236, t237, t238, t239, t240, t241, t242, t243, t244, t245, t246, t247, t248, t249, t250, t251, t252, t253, t254, t255, t256, t257, t258, t259, t260, t261, t262, t263, t264, t265, t266, t267, t268, t269, t270, t271, t272, t273, t274, t275, t276, t277, t278, t279, t280, t281, t282, t283, t284, t285, t286, t287, t288, t289, t290, t291, t292, t293, t294, t295, t296, t297, t298, t299, t300, t301, t302, t303, t304, t305, t306, t307, t308, t309, t310, t311, t312, t313, t314, t315, t316, t317, t318, t319, t320, t321, t322, t323, t324, t325, t326, t327, t328, t329, t330, t331, t332, t333, t334, t335, t336, t337, t338, t339, t340, t341, t342, t343, t344, t345, t346, t347, t348, t349, t350, t351, t352], defers := [] } wr := by
  simp only [head14, rest14, kBody, Try.f4, Option.getD_some, seqR, seqL]
  simp only [rest15, rest14, kBody, Try.f4, Option.getD_some, seqR] at hK
  go_wp2_with fail
  obtain ⟨y0, hy0⟩ : ∃ y : World, y = wr.alloc (.cells #[.int .u64 40, .int .u64 0, .int .u64 100, .int .u64 0, .int .u64 100, .int .u64 0, .int .u64 0, .int .u64 100, .int .u64 60, .int .u64 100, .int .u64 0, .int .u64 100] 66) := ⟨_, rfl⟩
  have gy0 : wr.grownBy y0 none := by rw [hy0]; exact World.grownBy_alloc _ _ _
  have hX0 : y0.heap[wr.heap.size]? = some (.cells #[.int .u64 40, .int .u64 0, .int .u64 100, .int .u64 0, .int .u64 100, .int .u64 0, .int .u64 0, .int .u64 100, .int .u64 60, .int .u64 100, .int .u64 0, .int .u64 100] 66 (0, 0)) := by rw [hy0]; exact heap_alloc_new wr _
  rw [← hy0]
  clear hy0
  obtain ⟨z0, z1, z2, z3, z4, z5, z6, z7, z8, z9, z10, z11, zf⟩ := blk12c hX0
  have zl := blk_lt hX0
  refine wp_loop_rounds 3 ?_
  rw [rounds_succ]
  go_wp2_with fail
  refine wp_loop_rounds 4 ?_
  rw [rounds_succ]
  go_wp2_with fail
  refine wp_loop_rounds 3 ?_
  rw [rounds_succ]
  go_wp2_with fail
  have hb0 := fun n : Nat => balance0 (hB.grown (grown_drewN gy0 n)) (user := 0) (coin := 0) (by decide) (by decide)
  rw [endB_b000] at hb0
  go_quiet (first | (go_at_call 10; refine Calls.quiet_of_same (hb0 _)))
  obtain ⟨y1, hy1⟩ : ∃ y : World, y = y0.drewN nq := ⟨_, rfl⟩
  have gy1 : wr.grownBy y1 none := by rw [hy1]; exact grown_drewN gy0 nq
  have hX1 : y1.heap[wr.heap.size]? = some (.cells #[.int .u64 40, .int .u64 0, .int .u64 100, .int .u64 0, .int .u64 100, .int .u64 0, .int .u64 0, .int .u64 100, .int .u64 60, .int .u64 100, .int .u64 0, .int .u64 100] 66 (0, 0)) := by rw [hy1, drewN_heap]; exact hX0
  rw [← hy1]
  clear hy1 hb0 z0 z1 z2 z3 z4 z5 z6 z7 z8 z9 z10 z11 zf zl
  obtain ⟨z0, z1, z2, z3, z4, z5, z6, z7, z8, z9, z10, z11, zf⟩ := blk12c hX1
  have zl := blk_lt hX1
  go_wp2_with fail
  rw [rounds_succ]
  go_wp2_with fail
  have hb1 := fun n : Nat => balance0 (hB.grown (grown_drewN gy1 n)) (user := 0) (coin := 1) (by decide) (by decide)
  rw [endB_b001] at hb1
  go_quiet (first | (go_at_call 10; refine Calls.quiet_of_same (hb1 _)))
  obtain ⟨y2, hy2⟩ : ∃ y : World, y = y1.drewN nq := ⟨_, rfl⟩
  have gy2 : wr.grownBy y2 none := by rw [hy2]; exact grown_drewN gy1 nq
  have hX2 : y2.heap[wr.heap.size]? = some (.cells #[.int .u64 40, .int .u64 0, .int .u64 100, .int .u64 0, .int .u64 100, .int .u64 0, .int .u64 0, .int .u64 100, .int .u64 60, .int .u64 100, .int .u64 0, .int .u64 100] 66 (0, 0)) := by rw [hy2, drewN_heap]; exact hX1
  rw [← hy2]
  clear hy2 hb1 z0 z1 z2 z3 z4 z5 z6 z7 z8 z9 z10 z11 zf zl
  obtain ⟨z0, z1, z2, z3, z4, z5, z6, z7, z8, z9, z10, z11, zf⟩ := blk12c hX2
  have zl := blk_lt hX2
  go_wp2_with fail
  rw [rounds_succ]
  go_wp2_with fail
  rw [rounds_succ]
  go_wp2_with fail
  refine wp_loop_rounds 3 ?_
  rw [rounds_succ]
  go_wp2_with fail
  have hb2 := fun n : Nat => balance0 (hB.grown (grown_drewN gy2 n)) (user := 1) (coin := 0) (by decide) (by decide)
  rw [endB_b010] at hb2
  go_quiet (first | (go_at_call 10; refine Calls.quiet_of_same (hb2 _)))
  obtain ⟨y3, hy3⟩ : ∃ y : World, y = y2.drewN nq := ⟨_, rfl⟩
  have gy3 : wr.grownBy y3 none := by rw [hy3]; exact grown_drewN gy2 nq
  have hX3 : y3.heap[wr.heap.size]? = some (.cells #[.int .u64 40, .int .u64 0, .int .u64 100, .int .u64 0, .int .u64 100, .int .u64 0, .int .u64 0, .int .u64 100, .int .u64 60, .int .u64 100, .int .u64 0, .int .u64 100] 66 (0, 0)) := by rw [hy3, drewN_heap]; exact hX2
  rw [← hy3]
  clear hy3 hb2 z0 z1 z2 z3 z4 z5 z6 z7 z8 z9 z10 z11 zf zl
  obtain ⟨z0, z1, z2, z3, z4, z5, z6, z7, z8, z9, z10, z11, zf⟩ := blk12c hX3
  have zl := blk_lt hX3
  go_wp2_with fail
  rw [rounds_succ]
  go_wp2_with fail
  have hb3 := fun n : Nat => balance0 (hB.grown (grown_drewN gy3 n)) (user := 1) (coin := 1) (by decide) (by decide)
  rw [endB_b011] at hb3
  go_quiet (first | (go_at_call 10; refine Calls.quiet_of_same (hb3 _)))
  obtain ⟨y4, hy4⟩ : ∃ y : World, y = y3.drewN nq := ⟨_, rfl⟩
  have gy4 : wr.grownBy y4 none := by rw [hy4]; exact grown_drewN gy3 nq
  have hX4 : y4.heap[wr.heap.size]? = some (.cells #[.int .u64 40, .int .u64 0, .int .u64 100, .int .u64 0, .int .u64 100, .int .u64 0, .int .u64 0, .int .u64 100, .int .u64 60, .int .u64 100, .int .u64 0, .int .u64 100] 66 (0, 0)) := by rw [hy4, drewN_heap]; exact hX3
  rw [← hy4]
  clear hy4 hb3 z0 z1 z2 z3 z4 z5 z6 z7 z8 z9 z10 z11 zf zl
  obtain ⟨z0, z1, z2, z3, z4, z5, z6, z7, z8, z9, z10, z11, zf⟩ := blk12c hX4
  have zl := blk_lt hX4
  go_wp2_with fail
  rw [rounds_succ]
  go_wp2_with fail
  rw [rounds_succ]
  go_wp2_with fail
  refine wp_loop_rounds 3 ?_
  rw [rounds_succ]
  go_wp2_with fail
  have hb4 := fun n : Nat => balance0 (hB.grown (grown_drewN gy4 n)) (user := 2) (coin := 0) (by decide) (by decide)
  rw [endB_b020] at hb4
  go_quiet (first | (go_at_call 10; refine Calls.quiet_of_same (hb4 _)))
  obtain ⟨y5, hy5⟩ : ∃ y : World, y = y4.drewN nq := ⟨_, rfl⟩
  have gy5 : wr.grownBy y5 none := by rw [hy5]; exact grown_drewN gy4 nq
  have hX5 : y5.heap[wr.heap.size]? = some (.cells #[.int .u64 40, .int .u64 0, .int .u64 100, .int .u64 0, .int .u64 100, .int .u64 0, .int .u64 0, .int .u64 100, .int .u64 60, .int .u64 100, .int .u64 0, .int .u64 100] 66 (0, 0)) := by rw [hy5, drewN_heap]; exact hX4
  rw [← hy5]
  clear hy5 hb4 z0 z1 z2 z3 z4 z5 z6 z7 z8 z9 z10 z11 zf zl
  obtain ⟨z0, z1, z2, z3, z4, z5, z6, z7, z8, z9, z10, z11, zf⟩ := blk12c hX5
  have zl := blk_lt hX5
  go_wp2_with fail
  rw [rounds_succ]
  go_wp2_with fail
  have hb5 := fun n : Nat => balance0 (hB.grown (grown_drewN gy5 n)) (user := 2) (coin := 1) (by decide) (by decide)
  rw [endB_b021] at hb5
  go_quiet (first | (go_at_call 10; refine Calls.quiet_of_same (hb5 _)))
  obtain ⟨y6, hy6⟩ : ∃ y : World, y = y5.drewN nq := ⟨_, rfl⟩
  have gy6 : wr.grownBy y6 none := by rw [hy6]; exact grown_drewN gy5 nq
  have hX6 : y6.heap[wr.heap.size]? = some (.cells #[.int .u64 40, .int .u64 0, .int .u64 100, .int .u64 0, .int .u64 100, .int .u64 0, .int .u64 0, .int .u64 100, .int .u64 60, .int .u64 100, .int .u64 0, .int .u64 100] 66 (0, 0)) := by rw [hy6, drewN_heap]; exact hX5
  rw [← hy6]
  clear hy6 hb5 z0 z1 z2 z3 z4 z5 z6 z7 z8 z9 z10 z11 zf zl
  obtain ⟨z0, z1, z2, z3, z4, z5, z6, z7, z8, z9, z10, z11, zf⟩ := blk12c hX6
  have zl := blk_lt hX6
  go_wp2_with fail
  rw [rounds_succ]
  go_wp2_with fail
  rw [rounds_succ]
  go_wp2_with fail
  rw [rounds_succ]
  go_wp2_with fail
  refine wp_loop_rounds 4 ?_
  rw [rounds_succ]
  go_wp2_with fail
  refine wp_loop_rounds 3 ?_
  rw [rounds_succ]
  go_wp2_with fail
  have hb6 := fun n : Nat => balance1 (hB.grown (grown_drewN gy6 n)) (user := 0) (coin := 0) (by decide) (by decide)
  rw [endB_b100] at hb6
  go_quiet (first | (go_at_call 10; refine Calls.quiet_of_same (hb6 _)))
  obtain ⟨y7, hy7⟩ : ∃ y : World, y = y6.drewN nq := ⟨_, rfl⟩
  have gy7 : wr.grownBy y7 none := by rw [hy7]; exact grown_drewN gy6 nq
  have hX7 : y7.heap[wr.heap.size]? = some (.cells #[.int .u64 40, .int .u64 0, .int .u64 100, .int .u64 0, .int .u64 100, .int .u64 0, .int .u64 0, .int .u64 100, .int .u64 60, .int .u64 100, .int .u64 0, .int .u64 100] 66 (0, 0)) := by rw [hy7, drewN_heap]; exact hX6
  rw [← hy7]
  clear hy7 hb6 z0 z1 z2 z3 z4 z5 z6 z7 z8 z9 z10 z11 zf zl
  obtain ⟨z0, z1, z2, z3, z4, z5, z6, z7, z8, z9, z10, z11, zf⟩ := blk12c hX7
  have zl := blk_lt hX7
  go_wp2_with fail
  rw [rounds_succ]
  go_wp2_with fail
  have hb7 := fun n : Nat => balance1 (hB.grown (grown_drewN gy7 n)) (user := 0) (coin := 1) (by decide) (by decide)
  rw [endB_b101] at hb7
  go_quiet (first | (go_at_call 10; refine Calls.quiet_of_same (hb7 _)))
  obtain ⟨y8, hy8⟩ : ∃ y : World, y = y7.drewN nq := ⟨_, rfl⟩
  have gy8 : wr.grownBy y8 none := by rw [hy8]; exact grown_drewN gy7 nq
  have hX8 : y8.heap[wr.heap.size]? = some (.cells #[.int .u64 40, .int .u64 0, .int .u64 100, .int .u64 0, .int .u64 100, .int .u64 0, .int .u64 0, .int .u64 100, .int .u64 60, .int .u64 100, .int .u64 0, .int .u64 100] 66 (0, 0)) := by rw [hy8, drewN_heap]; exact hX7
  rw [← hy8]
  clear hy8 hb7 z0 z1 z2 z3 z4 z5 z6 z7 z8 z9 z10 z11 zf zl
  obtain ⟨z0, z1, z2, z3, z4, z5, z6, z7, z8, z9, z10, z11, zf⟩ := blk12c hX8
  have zl := blk_lt hX8
  go_wp2_with fail
  rw [rounds_succ]
  go_wp2_with fail
  rw [rounds_succ]
  go_wp2_with fail
  refine wp_loop_rounds 3 ?_
  rw [rounds_succ]
  go_wp2_with fail
  have hb8 := fun n : Nat => balance1 (hB.grown (grown_drewN gy8 n)) (user := 1) (coin := 0) (by decide) (by decide)
  rw [endB_b110] at hb8
  go_quiet (first | (go_at_call 10; refine Calls.quiet_of_same (hb8 _)))
  obtain ⟨y9, hy9⟩ : ∃ y : World, y = y8.drewN nq := ⟨_, rfl⟩
  have gy9 : wr.grownBy y9 none := by rw [hy9]; exact grown_drewN gy8 nq
  have hX9 : y9.heap[wr.heap.size]? = some (.cells #[.int .u64 40, .int .u64 0, .int .u64 100, .int .u64 0, .int .u64 100, .int .u64 0, .int .u64 0, .int .u64 100, .int .u64 60, .int .u64 100, .int .u64 0, .int .u64 100] 66 (0, 0)) := by rw [hy9, drewN_heap]; exact hX8
  rw [← hy9]
  clear hy9 hb8 z0 z1 z2 z3 z4 z5 z6 z7 z8 z9 z10 z11 zf zl
  obtain ⟨z0, z1, z2, z3, z4, z5, z6, z7, z8, z9, z10, z11, zf⟩ := blk12c hX9
  have zl := blk_lt hX9
  go_wp2_with fail
  rw [rounds_succ]
  go_wp2_with fail
  have hb9 := fun n : Nat => balance1 (hB.grown (grown_drewN gy9 n)) (user := 1) (coin := 1) (by decide) (by decide)
  rw [endB_b111] at hb9
  go_quiet (first | (go_at_call 10; refine Calls.quiet_of_same (hb9 _)))
  obtain ⟨y10, hy10⟩ : ∃ y : World, y = y9.drewN nq := ⟨_, rfl⟩
  have gy10 : wr.grownBy y10 none := by rw [hy10]; exact grown_drewN gy9 nq
  have hX10 : y10.heap[wr.heap.size]? = some (.cells #[.int .u64 40, .int .u64 0, .int .u64 100, .int .u64 0, .int .u64 100, .int .u64 0, .int .u64 0, .int .u64 100, .int .u64 60, .int .u64 100, .int .u64 0, .int .u64 100] 66 (0, 0)) := by rw [hy10, drewN_heap]; exact hX9
  rw [← hy10]
  clear hy10 hb9 z0 z1 z2 z3 z4 z5 z6 z7 z8 z9 z10 z11 zf zl
  obtain ⟨z0, z1, z2, z3, z4, z5, z6, z7, z8, z9, z10, z11, zf⟩ := blk12c hX10
  have zl := blk_lt hX10
  go_wp2_with fail
  rw [rounds_succ]
  go_wp2_with fail
  rw [rounds_succ]
  go_wp2_with fail
  refine wp_loop_rounds 3 ?_
  rw [rounds_succ]
  go_wp2_with fail
  have hb10 := fun n : Nat => balance1 (hB.grown (grown_drewN gy10 n)) (user := 2) (coin := 0) (by decide) (by decide)
  rw [endB_b120] at hb10
  go_quiet (first | (go_at_call 10; refine Calls.quiet_of_same (hb10 _)))
  obtain ⟨y11, hy11⟩ : ∃ y : World, y = y10.drewN nq := ⟨_, rfl⟩
  have gy11 : wr.grownBy y11 none := by rw [hy11]; exact grown_drewN gy10 nq
  have hX11 : y11.heap[wr.heap.size]? = some (.cells #[.int .u64 40, .int .u64 0, .int .u64 100, .int .u64 0, .int .u64 100, .int .u64 0, .int .u64 0, .int .u64 100, .int .u64 60, .int .u64 100, .int .u64 0, .int .u64 100] 66 (0, 0)) := by rw [hy11, drewN_heap]; exact hX10
  rw [← hy11]
  clear hy11 hb10 z0 z1 z2 z3 z4 z5 z6 z7 z8 z9 z10 z11 zf zl
  obtain ⟨z0, z1, z2, z3, z4, z5, z6, z7, z8, z9, z10, z11, zf⟩ := blk12c hX11
  have zl := blk_lt hX11
  go_wp2_with fail
  rw [rounds_succ]
  go_wp2_with fail
  have hb11 := fun n : Nat => balance1 (hB.grown (grown_drewN gy11 n)) (user := 2) (coin := 1) (by decide) (by decide)
  rw [endB_b121] at hb11
  go_quiet (first | (go_at_call 10; refine Calls.quiet_of_same (hb11 _)))
  obtain ⟨y12, hy12⟩ : ∃ y : World, y = y11.drewN nq := ⟨_, rfl⟩
  have gy12 : wr.grownBy y12 none := by rw [hy12]; exact grown_drewN gy11 nq
  have hX12 : y12.heap[wr.heap.size]? = some (.cells #[.int .u64 40, .int .u64 0, .int .u64 100, .int .u64 0, .int .u64 100, .int .u64 0, .int .u64 0, .int .u64 100, .int .u64 60, .int .u64 100, .int .u64 0, .int .u64 100] 66 (0, 0)) := by rw [hy12, drewN_heap]; exact hX11
  rw [← hy12]
  clear hy12 hb11 z0 z1 z2 z3 z4 z5 z6 z7 z8 z9 z10 z11 zf zl
  obtain ⟨z0, z1, z2, z3, z4, z5, z6, z7, z8, z9, z10, z11, zf⟩ := blk12c hX12
  have zl := blk_lt hX12
  go_wp2_with fail
  rw [rounds_succ]
  go_wp2_with fail
  rw [rounds_succ]
  go_wp2_with fail
  rw [rounds_succ]
  go_upto_region 29 with fail
  exact known_c (hB.grown gy12) (fun u gu => fin.out u (grown_trans gy12 gu (fun k e => by cases e))) _ (by assumption)

end Go.Proofs.Ytmfdhcnnhlchbab
