import Derived.Test.YtmfdhcnnhlchbabC18
namespace Go.Proofs.Ytmfdhcnnhlchbab
open Go.RowKit Go.Maps

set_option maxRecDepth 100000 in
set_option maxHeartbeats 40000000 in
theorem known_c {w wr : World} {x : Nat} {lab : Nat → Nat} {a0 a1 : DAt} {K0 K1 : Hd} (hB : Br lab wr x endB a0 a1 K0 K1 242) (fin : Hid (∀ u, wr.grownBy u none → w.grownBy u none)) {t0 t1 t2 t4 t5 t6 t7 t8 t9 t10 t11 t12 t13 t14 t15 t16 t17 t18 t19 t20 t21 t22 t23 t24 t25 t26 t27 t28 t29 t30 t31 t32 t33 t34 t35 t36 t37 t38 t39 t40 t41 t42 t43 t44 t45 t46 t47 t48 t49 t50 t51 t52 t53 t54 t55 t56 t57 t58 t59 t60 t61 t62 t63 t64 t65 t66 t67 t68 t69 t70 t71 t72 t73 t74 t75 t76 t77 t78 t79 t80 t81 t82 t83 t84 t85 t86 t87 t88 t89 t90 t91 t92 t93 t94 t95 t96 t97 t98 t99 t100 t101 t102 t103 t104 t105 t106 t107 t108 t109 t110 t111 t112 t113 t114 t115 t116 t117 t118 t119 t120 t121 t122 t123 t124 t125 t126 t127 t128 t129 t130 t131 t132 t133 t134 t135 t136 t137 t138 t139 t140 t141 t142 t143 t144 t145 t146 t147 t148 t149 t150 t151 t152 t153 t154 t155 t156 t157 t158 t159 t160 t161 t162 t163 t164 t165 t166 t167 t168 t169 t170 t171 t172 t173 t174 t175 t176 t177 t178 t179 t180 t181 t182 t183 t184 t185 t186 t187 t188 t189 t190 t191 t192 t193 t194 t195 t196 t197 t198 t199 t200 t201 t202 t203 t204 t205 t206 t207 t208 t209 t210 t211 t212 t213 t214 t215 t216 t217 t218 t219 t220 t221 t222 t223 t224 t225 t226 t227 t228 t229 t230 t231 t232 t233 t234 t235 t236 t237 t238 t239 t240 t241 t242 t243 t244 t245 t246 t247 t248 t249 t250 t251 t252 t253 t254 t255 t256 t257 t258 t259 t260 t261 t262 t263 t264 t265 t266 t267 t268 t269 t270 t271 t272 t273 t274 t275 t276 t277 t278 t279 t280 t281 t282 t283 t284 t285 t286 t287 t288 t289 t290 t291 t292 t293 t294 t295 t296 t297 t298 t299 t300 t301 t302 t303 t304 t305 t306 t307 t308 t309 t310 t311 t312 t313 t314 t315 t316 t317 t318 t319 t320 t321 t322 t323 t324 t325 t326 t327 t328 t329 t330 t331 t332 t333 t334 t335 t336 t337 t338 t339 t340 t341 t342 t343 t344 t345 t346 t347 t348 t349 t350 t351 t352 : Value}
    (K : Act → World → Prop) (hK : ∀ a u, Code.wp Try.prog (rest30 Try.f4) (bodyPost Try.prog Try.f4 fun e w' => e = .returned (.bool true) ∧ w.grownBy w' none) a u → K a u) : Code.wp Try.prog (head29 Try.f4) (Exit.then K (bodyPost Try.prog Try.f4 fun e w' => e = .returned (.bool true) ∧ w.grownBy w' none)) { tmps := #[t0, t1, t2, .pointer (some ⟨x, 0, none⟩), t4, t5, t6, t7, t8, t9, t10, t11, t12, t13, t14, t15, t16, t17, t18, t19, t20, t21, t22, t23, t24, t25, t26, t27, t28, t29, t30, t31, t32, t33, t34, t35, t36, t37, t38, t39, t40, t41, t42, t43, t44, t45, t46, t47, t48, t49, t50, t51, t52, t53, t54, t55, t56, t57, t58, t59, t60, t61, t62, t63, t64, t65, t66, t67, t68, t69, t70, t71, t72, t73, t74, t75, t76, t77, t78, t79, t80, t81, t82, t83, t84, t85, t86, t87, t88, t89, t90, t91, t92, t93, t94, t95, t96, t97, t98, t99, t100, t101, t102, t103, t104, t105, t106, t107, t108, t109, t110, t111, t112, t113, t114, t115, t116, t117, t118, t119, t120, t121, t122, t123, t124, t125, t126, t127, t128, t129, t130, t131, t132, t133, t134, t135, t136, t137, t138, t139, t140, t141, t142, t143, t144, t145, t146, t147, t148, t149, t150, t151, t152, t153, t154, t155, t156, t157, t158, t159, t160, t161, t162, t163, t164, t165, t166, t167, t168, t169, t170, t171, t172, t173, t174, t175, t176, t177, t178, t179, t180, t181, t182, t183, t184, t185, t186, t187, t188, t189, t190, t191, t192, t193, t194, t195, t196, t197, t198, t199, t200, t201, t202, t203, t204, t205, t206, t207, t208, t209, t210, t211, t212, t213, t214, t215, t216, t217, t218, t219, t220, t221, t222, t223, t224, t225, t226, t227, t228, t229, t230, t231, t232, t233, t234, t235, t236, t237, t238, t239, t240, t241, t242, t243, t244, t245, t246, t247, t248, t249, t250, t251, t252, t253, t254, t255, t256, t257, t258, t259, t260, t261, t262, t263, t264, t265, t266, t267, t268, t269, t270, t271, t272, t273, t274, t275, t276, t277, t278, t279, t280, t281, t282, t283, t284, t285, t286, t287, t288, t289, t290, t291, t292, t293, t294, t295, t296, t297, t298, t299, t300, t301, t302, t303, t304, t305, t306, t307, t308, t309, t310, t311, t312, t313, t314, t315, t316, t317, t318, t319, t320, t321, t322, t323, t324, t325, t326, t327, t328, t329, t330, t331, t332, t333, t334, t335, t336, t337, t338, t339, t340, t341, t342, t343, t344, t345, t346, t347, t348, t349, t350, t351, t352], defers := [] } wr := by
  simp only [head29, rest29, rest14, kBody, Try.f4, Option.getD_some, seqR, seqL]
  simp only [rest30, rest29, rest14, kBody, Try.f4, Option.getD_some, seqR] at hK
  have gwr : wr.grownBy wr none := grown_refl wr none
  have hL0 := look0_none hB endB_p0
  rw [endB_l, endB_o0, endB_ns] at hL0
  generalize endB.c0.hd.height = i1, endB.c0.hd.time = i2, K0.height = i3, endB.c0.hd.nextRecv = i6, endB.c0.about = i7 at hL0
  go_wp2_with fail
  refine (hL0).mono ?_
  rintro e q1 ⟨rfl, gq⟩
  have gq1 : wr.grownBy q1 none := grown_trans gwr gq (fun k e => by cases e)
  clear gq
  go_wp2_with fail
  obtain ⟨q2, hq2⟩ : ∃ y : World, y = q1.alloc (.cells #[.int .u64 i1, .int .u64 i2, .int .u64 i3, .bool false, .int .u64 5, .int .u64 i6, .slice none 0 0, .int .u64 60, .int .u64 i7] 28) := ⟨_, rfl⟩
  have gq2 : wr.grownBy q2 none := by rw [hq2]; exact grown_alloc gq1 _
  have Hq2 : q2.heap[q1.heap.size]? = some (.cells #[.int .u64 i1, .int .u64 i2, .int .u64 i3, .bool false, .int .u64 5, .int .u64 i6, .slice none 0 0, .int .u64 60, .int .u64 i7] 28 (0, 0)) := by rw [hq2]; exact heap_alloc_new q1 _
  rw [← hq2]
  clear hq2
  have hL1 := look1_none (hB.grown gq2) endB_p1
  rw [endB_a, endB_o1, endB_nr] at hL1
  generalize endB.c1.hd.height = j1, endB.c1.hd.time = j2, K1.height = j3, endB.c1.nextSend = j5, endB.c1.locked = j7 at hL1
  refine hL1.mono ?_
  rintro e q3 ⟨rfl, gq⟩
  have gq3 : wr.grownBy q3 none := grown_trans gq2 gq (fun k e => by cases e)
  have Hq2' := (gq.block _ (blk_lt Hq2) (by simp)).trans Hq2
  have zq2 := blk_lt Hq2'
  clear gq
  obtain ⟨x0, x1, x2, x3, x4, x5, x6, x7, x8, xf⟩ := blk9c Hq2'
  clear x0 x1 x2 x5 x8 xf
  have hwz : IntKind.i64.wrap 0 = 0 := by decide
  go_wp2_with fail
  obtain ⟨q4, hq4⟩ : ∃ y : World, y = q3.alloc (.cells #[.int .u64 j1, .int .u64 j2, .int .u64 j3, .bool false, .int .u64 j5, .int .u64 3, .slice none 0 0, .int .u64 j7, .int .u64 60] 28) := ⟨_, rfl⟩
  have gq4 : wr.grownBy q4 none := by rw [hq4]; exact grown_alloc gq3 _
  have Hq4 : q4.heap[q3.heap.size]? = some (.cells #[.int .u64 j1, .int .u64 j2, .int .u64 j3, .bool false, .int .u64 j5, .int .u64 3, .slice none 0 0, .int .u64 j7, .int .u64 60] 28 (0, 0)) := by rw [hq4]; exact heap_alloc_new q3 _
  rw [← hq4]
  clear hq4
  refine (lookNo (w := q4) (x := x) (c := 2) (by decide) (by decide)).mono ?_
  rintro e q5 ⟨rfl, gq⟩
  have gq5 : wr.grownBy q5 none := grown_trans gq4 gq (fun k e => by cases e)
  clear gq
  go_wp2_with fail
  obtain ⟨q6, hq6⟩ : ∃ y : World, y = q5.alloc (.cells #[.int .u64 0, .int .u64 0, .int .u64 0, .bool false, .int .u64 0, .int .u64 0, .slice none 0 0, .int .u64 0, .int .u64 0] 28) := ⟨_, rfl⟩
  have gq6 : wr.grownBy q6 none := by rw [hq6]; exact grown_alloc gq5 _
  have Hq6 : q6.heap[q5.heap.size]? = some (.cells #[.int .u64 0, .int .u64 0, .int .u64 0, .bool false, .int .u64 0, .int .u64 0, .slice none 0 0, .int .u64 0, .int .u64 0] 28 (0, 0)) := by rw [hq6]; exact heap_alloc_new q5 _
  rw [← hq6]
  clear hq6
  refine (headNo (w := q6) (x := x) (c := 3) (n := 0) (by decide) (by decide)).mono ?_
  rintro e q7 ⟨rfl, gq⟩
  have gq7 : wr.grownBy q7 none := grown_trans gq6 gq (fun k e => by cases e)
  clear gq
  go_wp2_with fail
  obtain ⟨q8, hq8⟩ : ∃ y : World, y = q7.alloc (.cells #[.int .u64 0, .int .u64 0, .bool false, .int .u64 0, .int .i64 0, .int .i64 0] 68) := ⟨_, rfl⟩
  have gq8 : wr.grownBy q8 none := by rw [hq8]; exact grown_alloc gq7 _
  have Hq8 : q8.heap[q7.heap.size]? = some (.cells #[.int .u64 0, .int .u64 0, .bool false, .int .u64 0, .int .i64 0, .int .i64 0] 68 (0, 0)) := by rw [hq8]; exact heap_alloc_new q7 _
  rw [← hq8]
  clear hq8
  refine (headFar0 (hB.grown gq8) (by decide) (n := 99) (by rw [endB_len]; decide)).mono ?_
  rintro e q9 ⟨rfl, gq⟩
  have gq9 : wr.grownBy q9 none := grown_trans gq8 gq (fun k e => by cases e)
  clear gq
  go_wp2_with fail
  obtain ⟨q10, hq10⟩ : ∃ y : World, y = q9.alloc (.cells #[.int .u64 0, .int .u64 0, .bool false, .int .u64 0, .int .i64 0, .int .i64 0] 68) := ⟨_, rfl⟩
  have gq10 : wr.grownBy q10 none := by rw [hq10]; exact grown_alloc gq9 _
  have Hq10 : q10.heap[q9.heap.size]? = some (.cells #[.int .u64 0, .int .u64 0, .bool false, .int .u64 0, .int .i64 0, .int .i64 0] 68 (0, 0)) := by rw [hq10]; exact heap_alloc_new q9 _
  rw [← hq10]
  clear hq10
  obtain ⟨K, hK1, hK2⟩ := endB_h1
  have hh := head0 (hB.grown gq10) (by decide) hK1
  rw [hK2] at hh
  refine (hh).mono ?_
  rintro e q11 ⟨rfl, gq⟩
  have gq11 : wr.grownBy q11 none := grown_trans gq10 gq (fun k e => by cases e)
  clear gq
  go_wp2_with fail
  obtain ⟨q12, hq12⟩ : ∃ y : World, y = q11.alloc (.cells #[.int .u64 1, .int .u64 5, .bool true, .int .u64 1, .int .i64 4, .int .i64 0] 68) := ⟨_, rfl⟩
  have gq12 : wr.grownBy q12 none := by rw [hq12]; exact grown_alloc gq11 _
  have Hq12 : q12.heap[q11.heap.size]? = some (.cells #[.int .u64 1, .int .u64 5, .bool true, .int .u64 1, .int .i64 4, .int .i64 0] 68 (0, 0)) := by rw [hq12]; exact heap_alloc_new q11 _
  rw [← hq12]
  clear hq12
  have hs1 := same_any (hB.grown gq12) (by decide) 0 0 1 0 (by decide) (by decide)
  rw [endB_s1] at hs1
  refine (hs1).mono ?_
  rintro e s1 ⟨rfl, gq⟩
  have gs1 : wr.grownBy s1 none := grown_trans gq12 gq (fun k e => by cases e)
  clear gq
  go_wp2_with fail
  have hs2 := same_any (hB.grown gs1) (by decide) 0 1 1 1 (by decide) (by decide)
  rw [endB_s2] at hs2
  refine (hs2).mono ?_
  rintro e s2 ⟨rfl, gq⟩
  have gs2 : wr.grownBy s2 none := grown_trans gs1 gq (fun k e => by cases e)
  clear gq
  go_wp2_with fail
  have hs3 := same_any (hB.grown gs2) (by decide) 0 1 0 1 (by decide) (by decide)
  rw [endB_s3] at hs3
  refine (hs3).mono ?_
  rintro e s3 ⟨rfl, gq⟩
  have gs3 : wr.grownBy s3 none := grown_trans gs2 gq (fun k e => by cases e)
  clear gq
  go_wp2_with fail
  have hs4 := same_any (hB.grown gs3) (by decide) 0 9 0 9 (by decide) (by decide)
  rw [endB_s4] at hs4
  refine (hs4).mono ?_
  rintro e s4 ⟨rfl, gq⟩
  have gs4 : wr.grownBy s4 none := grown_trans gs3 gq (fun k e => by cases e)
  clear gq
  go_wp2_with fail
  have hs5 := same_any (hB.grown gs4) (by decide) 2 0 2 0 (by decide) (by decide)
  rw [endB_s5] at hs5
  refine (hs5).mono ?_
  rintro e s5 ⟨rfl, gq⟩
  have gs5 : wr.grownBy s5 none := grown_trans gs4 gq (fun k e => by cases e)
  clear gq
  go_wp2_with fail
  refine (balanceNo (w := s5) (x := x) (c := 2) (user := 0) (coin := 0) (by decide) (by decide)).mono ?_
  rintro e s6 ⟨rfl, rfl⟩
  go_wp2_with fail
  have hz1 := balance0 (hB.grown gs5) (user := 3) (coin := 0) (by decide) (by decide)
  rw [endB_z1] at hz1
  have hz2 := balance0 (hB.grown gs5) (user := -1) (coin := 0) (by decide) (by decide)
  rw [endB_z2] at hz2
  have hz3 := balance0 (hB.grown gs5) (user := 0) (coin := 7) (by decide) (by decide)
  rw [endB_z3] at hz3
  refine (hz1).mono ?_
  rintro e s7 ⟨rfl, rfl⟩
  go_wp2_with fail
  refine (hz2).mono ?_
  rintro e s8 ⟨rfl, rfl⟩
  go_wp2_with fail
  refine (hz3).mono ?_
  rintro e s9 ⟨rfl, rfl⟩
  go_wp2_with fail
  go_ret
  exact ⟨rfl, fin.out _ gs5⟩

end Go.Proofs.Ytmfdhcnnhlchbab
