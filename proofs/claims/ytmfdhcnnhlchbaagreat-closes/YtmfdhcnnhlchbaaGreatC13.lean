import Derived.Test.YtmfdhcnnhlchbaaGreatC07
import Derived.Test.YtmfdhcnnhlchbaaGreatC12
namespace Go.Proofs.YtmfdhcnnhlchbaaGreat
open Go.RowKit

set_option maxRecDepth 100000 in
set_option maxHeartbeats 1600000 in
theorem step_do0 {Dev : Nat → (Nat → Nat) → Nat → World → Nat → Mod → Prop} {kd : Int → Prop} (D : DevSide Dev kd) {own : Nat → Nat} {w : World} {W N : Nat} {qs : List PairS} {o : OpV} (h : Inv Dev own w W qs N) (hN : N ≤ 900000)
    (hk : o.kind = 2) (hoc : o.c = 0) (hkd : kd o.k) (hn : 0 ≤ o.n ∧ o.n < 18446744073709551616) (ha : -9223372036854775808 ≤ o.a ∧ o.a ≤ 9223372036854775807) (hq : 0 < qs.length) :
    Calls Tryz.prog 15 #[.pointer (some ⟨W, 0, none⟩), o.agg] w fun e w' => e = .returned (.bool true) ∧ StepTo Dev own w W N w' := by
  obtain ⟨ls, a, hW, hnl⟩ := h.wr
  have hil : pickV o.a qs.length < qs.length := pickV_lt o.a hq
  obtain ⟨i, hi⟩ : ∃ i, i = pickV o.a qs.length := ⟨_, rfl⟩
  have hpick := fun w => pick_is o.a qs.length w hq (by have := h.len; omega) ha
  rw [← hi] at hil hpick
  obtain ⟨q, hqi⟩ : ∃ q, qs[i]? = some q := ⟨_, List.getElem?_eq_getElem hil⟩
  obtain ⟨hD, ⟨b0, b1, a0, a1, hM⟩, hL, ho3⟩ := h.ok q (List.mem_of_getElem? hqi)
  have hps : (qs.map fun q => (q.x, q.bm))[i]? = some (q.x, q.bm) := by simp [hqi]
  have hrow := hW.bs
  obtain ⟨gb, hgb, _⟩ := owns_some' hrow (by simpa using hq)
  rw [hgb] at hrow
  obtain ⟨r0, r1⟩ := pair_cells hrow hps
  obtain ⟨y0, y1, y2, y3, yf⟩ := blk4 hW.blk
  rw [hgb] at y0
  simp only [List.length_map] at y0
  have hWl := blk_lt hW.blk
  have hgl : gb < w.heap.size := owns_lt hrow rfl
  have hq0 : ((qs.length : Int) == 0) = false := by rw [beq_eq_false_iff_ne]; omega
  have hil' : (i : Int) < (qs.length : Int) := by omega
  have HI : Hid (i = pickV o.a qs.length) := hi
  clear hi
  go_enter Tryz.func15, Tryz.ntmps15
  go_wp2_with fail
  obtain ⟨w1, hw1⟩ : ∃ w1 : World, w1 = w.alloc (.cells o.arr 33) := ⟨_, rfl⟩
  have g1 : w.grownBy w1 none := by rw [hw1]; exact World.grownBy_alloc _ _ _
  have hX1 : w1.heap[w.heap.size]? = some (.cells o.arr 33 (0, 0)) := by rw [hw1]; exact heap_alloc_new w _
  simp only [OpV.arr, hk, hoc] at hw1
  rw [← hw1]
  have hcell : ∀ b j v, b < w.heap.size → w.cell? ⟨b, j, none⟩ = some v → w1.cell? ⟨b, j, none⟩ = some v := fun b j v hb hv => (World.cell?_of_block (g1.block b hb (by simp))).trans hv
  replace r0 := hcell _ _ _ hgl r0
  replace r1 := hcell _ _ _ hgl r1
  replace y0 := hcell _ _ _ hWl y0
  obtain ⟨o0, o1, o2, o3, o4, o5, o6, o7, o8, o9, o10, o11, o12, o13, o14, o15, of⟩ := blkOp hX1
  have hz1 : w.heap.size < w1.heap.size := blk_lt hX1
  clear y1 y2 y3 yf hcell hw1
  go_region_held3 (fun w' => w'.cell? ⟨W, 0, none⟩ = some (.slice (some ⟨gb, 0, none⟩) qs.length a.cb) ∧ w'.cell? ⟨w.heap.size, 1, none⟩ = some (.int .i64 o.a) ∧ w'.cell? ⟨gb, i * 2, none⟩ = some (.pointer (some ⟨q.x, 0, none⟩)) ∧ w'.cell? ⟨gb, i * 2 + 1, none⟩ = some (.pointer (some ⟨q.bm, 0, none⟩))) (go_keep)
    (first | (go_at_call 20; refine (hpick _).mono ?_; rintro e w' ⟨rfl, rfl⟩))
  all_goals
    go_wp2_with fail
    obtain ⟨w2, hw2⟩ : ∃ w2 : World, w2 = (w1.alloc (.cells #[.pointer (some ⟨q.x, 0, none⟩), .pointer (some ⟨q.bm, 0, none⟩)] 52)).drew := ⟨_, rfl⟩
    rw [← hw2]
    have g2 : w.grownBy w2 none := by rw [hw2]; exact grown_drew (grown_alloc g1 _)
    have hX2 : w2.heap[w.heap.size]? = some (.cells o.arr 33 (0, 0)) := by rw [hw2]; exact (heap_alloc_old w1 _ hz1).trans hX1
    have hP2 : w2.heap[w1.heap.size]? = some (.cells #[.pointer (some ⟨q.x, 0, none⟩), .pointer (some ⟨q.bm, 0, none⟩)] 52 (0, 0)) := by rw [hw2]; exact heap_alloc_new w1 _
    clear hw2 o0 o1 o2 o3 o4 o5 o6 o7 o8 o9 o10 o11 o12 o13 o14 o15 of r0 r1 y0 hpick
    have st2 : ∀ T, StepS T own (relab own w) w w2 := fun T => (relab_step T own w).trans (grown_stepS g2)
    have hD2 : Dev N (relab own w) q.o w2 q.x q.m := D.keep hD (st2 (fun _ => False)) (by simp) (by simp)
    have hM2 : RefMod (relab own w) q.o w2 q.bm b0 b1 q.m a0 a1 := hM.keepS (st2 (fun _ => False)) (by simp) (by simp) (by simp) (by simp)
    have hz2 : w1.heap.size < w2.heap.size := blk_lt hP2
    refine (D.step (c := 0) (k := o.k) (n := o.n) (p := o.p) hD2 (by omega) hL (by omega) (by omega) hkd hn).mono ?_
    rintro e w3 ⟨rfl, own3, hD3, s3⟩
    have away3 : ∀ b, b < w2.heap.size → relab own w b ≠ q.o + 3 → w3.heap[b]? = w2.heap[b]? := fun b hb hl => s3.block b hb hl
    have hX3 := (away3 _ (by omega) (by rw [relab_new (Nat.le_refl _)]; omega)).trans hX2
    have hP3 := (away3 _ hz2 (by rw [relab_new (by omega)]; omega)).trans hP2
    have hM3 : RefMod own3 q.o w3 q.bm b0 b1 q.m a0 a1 := hM2.keepS s3 (by omega) (by omega) (by omega) (by omega)
    have hs3 := s3.size
    obtain ⟨o0, o1, o2, o3, o4, o5, o6, o7, o8, o9, o10, o11, o12, o13, o14, o15, of⟩ := blkOp hX3
    obtain ⟨p0, p1, pf⟩ := blk2 hP3
    obtain ⟨m0, m1, m2, mf⟩ := blk3 hM3.blk
    obtain ⟨d0, d1, d2, d3, d4, d5, d6, d7, d8, d9, d10, d11, d12, d13, d14, d15, d16, d17, df⟩ := ch_cells hM3.c1.blk
    rw [heads_len hM3.c1] at d16
    rw [hoc] at o2
    clear d0 d1 d2 d3 d4 d5 d6 d7 d8 d9 d10 d11 d12 d13 d14 d15 d17 df m2 mf pf of
    go_wp2_with fail
    have hM4 : RefMod own3 q.o w3.drew q.bm b0 b1 q.m a0 a1 := hM3.keepS (grown_stepS (T := fun _ => False) (grown_drew (grown_refl w3 none))) (by simp) (by simp) (by simp) (by simp)
    have hr := rdo_spec (c := 0) (k := o.k) (n := o.n) (p := o.p) hM4 (by omega) hL (by omega) (by omega) hn.1
    rw [if_pos rfl] at hr
    have wr1 : IntKind.i64.wrap 1 = 1 := by decide
    have wr0 : IntKind.i64.wrap 0 = 0 := by decide
    refine wp_region_head 19 (by kernel_rfl) (by kernel_rfl) #[true, true, true, true, true, true, true, true, true, true, true, true, true, true, true, true, true, true, true, false, false, false, false, false, false] (by kernel_rfl) ?_
    simp only [List.take_succ_cons, List.take_zero]
    repeat still_step
    refine wpStill_nil ?_
    refine wpAny_ready (rs := [19]) (by kernel_rfl) (by simp) ?_
    refine AllReady.cons (o := _) rfl (fun K hK => ?_) AllReady.nil
    go_simp
    refine hr.mono ?_
    rintro e w5 ⟨rfl, own5, x0, x1, hM5, s5⟩
    refine hK _ _ ?_
    clear hK K hr o0 o1 o2 o3 o4 o5 o6 o7 o8 o9 o10 o11 o12 o13 o14 o15 p0 p1 m0 m1 d16
    refine wpAny_take (i := 20) (v := ?_) rfl (by kernel_rfl) (by kernel_rfl) (by kernel_rfl) (fun _ _ _ h => h) (Or.inl ⟨by rfl, ?_⟩) ?_
    rotate_left
    · intro w
      go_simp
      with_reducible rfl
    refine wpAny_take (i := 21) (v := ?_) rfl (by kernel_rfl) (by kernel_rfl) (by kernel_rfl) (fun _ _ _ h => h) (Or.inl ⟨by rfl, ?_⟩) ?_
    rotate_left
    · intro w
      go_simp
      with_reducible rfl
    refine wpAny_take (i := 22) (v := ?_) rfl (by kernel_rfl) (by kernel_rfl) (by kernel_rfl) (fun _ _ _ h => h) (Or.inl ⟨by rfl, ?_⟩) ?_
    rotate_left
    · intro w
      go_simp
      with_reducible rfl
    refine wpAny_take (i := 23) (v := ?_) rfl (by kernel_rfl) (by kernel_rfl) (by kernel_rfl) (fun _ _ _ h => h) (Or.inl ⟨by rfl, ?_⟩) ?_
    rotate_left
    · intro w
      go_simp
      with_reducible rfl
    refine wpAny_take (i := 24) (v := ?_) rfl (by kernel_rfl) (by kernel_rfl) (by kernel_rfl) (fun _ _ _ h => h) (Or.inl ⟨by rfl, ?_⟩) ?_
    rotate_left
    · intro w
      go_simp
      with_reducible rfl
    refine wpAny_done (by kernel_rfl) ?_ _
    go_wp2_with fail
    go_ret
    refine ⟨rfl, own5, qs.set i { q with m := (doM q.m 0 o.k o.n o.p).1 }, ?_, ?_⟩
    · have sA : StepS (fun l => q.o ≤ l ∧ l ≤ q.o + 3) own own5 w w5 := ((st2 _).trans ((s3.wider (fun l hl => by omega)).trans (grown_stepS (grown_drew (grown_refl w3 none))))).trans (s5.wider (fun l hl => by omega))
      refine h.turn D hqi sA (fun l hl => hl) (by omega) ⟨?_, ⟨b0, b1, x0, x1, hM5⟩, doM_lim hL 0 o.k o.n o.p, ho3⟩
      have k3 : ¬ (q.o + 3 = q.o ∨ q.o + 3 = q.o + 1 ∨ q.o + 3 = q.o + 2) := by omega
      have k0 : ¬ (0 = q.o ∨ 0 = q.o + 1 ∨ 0 = q.o + 2) := by omega
      exact D.keep (D.keep hD3 (grown_stepS (T := fun _ => False) (grown_drew (grown_refl w3 none))) (by simp) (by simp)) s5 k3 k0
    · have n3 : ∀ l, l = q.o + 3 → l ≠ 0 := fun l hl => by omega
      have n5 : ∀ l, (l = q.o ∨ l = q.o + 1 ∨ l = q.o + 2) → l ≠ 0 := fun l hl => by omega
      exact ((st2 _).trans ((s3.wider n3).trans (grown_stepS (grown_drew (grown_refl w3 none))))).trans (s5.wider n5)

end Go.Proofs.YtmfdhcnnhlchbaaGreat

namespace Go.Proofs.YtmfdhcnnhlchbaaGreat
open Go.RowKit

set_option maxRecDepth 100000 in
set_option maxHeartbeats 1600000 in
theorem step_do1 {Dev : Nat → (Nat → Nat) → Nat → World → Nat → Mod → Prop} {kd : Int → Prop} (D : DevSide Dev kd) {own : Nat → Nat} {w : World} {W N : Nat} {qs : List PairS} {o : OpV} (h : Inv Dev own w W qs N) (hN : N ≤ 900000)
    (hk : o.kind = 2) (hoc : o.c = 1) (hkd : kd o.k) (hn : 0 ≤ o.n ∧ o.n < 18446744073709551616) (ha : -9223372036854775808 ≤ o.a ∧ o.a ≤ 9223372036854775807) (hq : 0 < qs.length) :
    Calls Tryz.prog 15 #[.pointer (some ⟨W, 0, none⟩), o.agg] w fun e w' => e = .returned (.bool true) ∧ StepTo Dev own w W N w' := by
  obtain ⟨ls, a, hW, hnl⟩ := h.wr
  have hil : pickV o.a qs.length < qs.length := pickV_lt o.a hq
  obtain ⟨i, hi⟩ : ∃ i, i = pickV o.a qs.length := ⟨_, rfl⟩
  have hpick := fun w => pick_is o.a qs.length w hq (by have := h.len; omega) ha
  rw [← hi] at hil hpick
  obtain ⟨q, hqi⟩ : ∃ q, qs[i]? = some q := ⟨_, List.getElem?_eq_getElem hil⟩
  obtain ⟨hD, ⟨b0, b1, a0, a1, hM⟩, hL, ho3⟩ := h.ok q (List.mem_of_getElem? hqi)
  have hps : (qs.map fun q => (q.x, q.bm))[i]? = some (q.x, q.bm) := by simp [hqi]
  have hrow := hW.bs
  obtain ⟨gb, hgb, _⟩ := owns_some' hrow (by simpa using hq)
  rw [hgb] at hrow
  obtain ⟨r0, r1⟩ := pair_cells hrow hps
  obtain ⟨y0, y1, y2, y3, yf⟩ := blk4 hW.blk
  rw [hgb] at y0
  simp only [List.length_map] at y0
  have hWl := blk_lt hW.blk
  have hgl : gb < w.heap.size := owns_lt hrow rfl
  have hq0 : ((qs.length : Int) == 0) = false := by rw [beq_eq_false_iff_ne]; omega
  have hil' : (i : Int) < (qs.length : Int) := by omega
  have HI : Hid (i = pickV o.a qs.length) := hi
  clear hi
  go_enter Tryz.func15, Tryz.ntmps15
  go_wp2_with fail
  obtain ⟨w1, hw1⟩ : ∃ w1 : World, w1 = w.alloc (.cells o.arr 33) := ⟨_, rfl⟩
  have g1 : w.grownBy w1 none := by rw [hw1]; exact World.grownBy_alloc _ _ _
  have hX1 : w1.heap[w.heap.size]? = some (.cells o.arr 33 (0, 0)) := by rw [hw1]; exact heap_alloc_new w _
  simp only [OpV.arr, hk, hoc] at hw1
  rw [← hw1]
  have hcell : ∀ b j v, b < w.heap.size → w.cell? ⟨b, j, none⟩ = some v → w1.cell? ⟨b, j, none⟩ = some v := fun b j v hb hv => (World.cell?_of_block (g1.block b hb (by simp))).trans hv
  replace r0 := hcell _ _ _ hgl r0
  replace r1 := hcell _ _ _ hgl r1
  replace y0 := hcell _ _ _ hWl y0
  obtain ⟨o0, o1, o2, o3, o4, o5, o6, o7, o8, o9, o10, o11, o12, o13, o14, o15, of⟩ := blkOp hX1
  have hz1 : w.heap.size < w1.heap.size := blk_lt hX1
  clear y1 y2 y3 yf hcell hw1
  go_region_held3 (fun w' => w'.cell? ⟨W, 0, none⟩ = some (.slice (some ⟨gb, 0, none⟩) qs.length a.cb) ∧ w'.cell? ⟨w.heap.size, 1, none⟩ = some (.int .i64 o.a) ∧ w'.cell? ⟨gb, i * 2, none⟩ = some (.pointer (some ⟨q.x, 0, none⟩)) ∧ w'.cell? ⟨gb, i * 2 + 1, none⟩ = some (.pointer (some ⟨q.bm, 0, none⟩))) (go_keep)
    (first | (go_at_call 20; refine (hpick _).mono ?_; rintro e w' ⟨rfl, rfl⟩))
  all_goals
    go_wp2_with fail
    obtain ⟨w2, hw2⟩ : ∃ w2 : World, w2 = (w1.alloc (.cells #[.pointer (some ⟨q.x, 0, none⟩), .pointer (some ⟨q.bm, 0, none⟩)] 52)).drew := ⟨_, rfl⟩
    rw [← hw2]
    have g2 : w.grownBy w2 none := by rw [hw2]; exact grown_drew (grown_alloc g1 _)
    have hX2 : w2.heap[w.heap.size]? = some (.cells o.arr 33 (0, 0)) := by rw [hw2]; exact (heap_alloc_old w1 _ hz1).trans hX1
    have hP2 : w2.heap[w1.heap.size]? = some (.cells #[.pointer (some ⟨q.x, 0, none⟩), .pointer (some ⟨q.bm, 0, none⟩)] 52 (0, 0)) := by rw [hw2]; exact heap_alloc_new w1 _
    clear hw2 o0 o1 o2 o3 o4 o5 o6 o7 o8 o9 o10 o11 o12 o13 o14 o15 of r0 r1 y0 hpick
    have st2 : ∀ T, StepS T own (relab own w) w w2 := fun T => (relab_step T own w).trans (grown_stepS g2)
    have hD2 : Dev N (relab own w) q.o w2 q.x q.m := D.keep hD (st2 (fun _ => False)) (by simp) (by simp)
    have hM2 : RefMod (relab own w) q.o w2 q.bm b0 b1 q.m a0 a1 := hM.keepS (st2 (fun _ => False)) (by simp) (by simp) (by simp) (by simp)
    have hz2 : w1.heap.size < w2.heap.size := blk_lt hP2
    refine (D.step (c := 1) (k := o.k) (n := o.n) (p := o.p) hD2 (by omega) hL (by omega) (by omega) hkd hn).mono ?_
    rintro e w3 ⟨rfl, own3, hD3, s3⟩
    have away3 : ∀ b, b < w2.heap.size → relab own w b ≠ q.o + 3 → w3.heap[b]? = w2.heap[b]? := fun b hb hl => s3.block b hb hl
    have hX3 := (away3 _ (by omega) (by rw [relab_new (Nat.le_refl _)]; omega)).trans hX2
    have hP3 := (away3 _ hz2 (by rw [relab_new (by omega)]; omega)).trans hP2
    have hM3 : RefMod own3 q.o w3 q.bm b0 b1 q.m a0 a1 := hM2.keepS s3 (by omega) (by omega) (by omega) (by omega)
    have hs3 := s3.size
    obtain ⟨o0, o1, o2, o3, o4, o5, o6, o7, o8, o9, o10, o11, o12, o13, o14, o15, of⟩ := blkOp hX3
    obtain ⟨p0, p1, pf⟩ := blk2 hP3
    obtain ⟨m0, m1, m2, mf⟩ := blk3 hM3.blk
    obtain ⟨d0, d1, d2, d3, d4, d5, d6, d7, d8, d9, d10, d11, d12, d13, d14, d15, d16, d17, df⟩ := ch_cells hM3.c0.blk
    rw [heads_len hM3.c0] at d16
    rw [hoc] at o2
    clear d0 d1 d2 d3 d4 d5 d6 d7 d8 d9 d10 d11 d12 d13 d14 d15 d17 df m2 mf pf of
    go_wp2_with fail
    have hM4 : RefMod own3 q.o w3.drew q.bm b0 b1 q.m a0 a1 := hM3.keepS (grown_stepS (T := fun _ => False) (grown_drew (grown_refl w3 none))) (by simp) (by simp) (by simp) (by simp)
    have hr := rdo_spec (c := 1) (k := o.k) (n := o.n) (p := o.p) hM4 (by omega) hL (by omega) (by omega) hn.1
    rw [if_neg (by decide)] at hr
    have wr1 : IntKind.i64.wrap 1 = 1 := by decide
    have wr0 : IntKind.i64.wrap 0 = 0 := by decide
    refine wp_region_head 19 (by kernel_rfl) (by kernel_rfl) #[true, true, true, true, true, true, true, true, true, true, true, true, true, true, true, true, true, true, true, false, false, false, false, false, false] (by kernel_rfl) ?_
    simp only [List.take_succ_cons, List.take_zero]
    repeat still_step
    refine wpStill_nil ?_
    refine wpAny_ready (rs := [19]) (by kernel_rfl) (by simp) ?_
    refine AllReady.cons (o := _) rfl (fun K hK => ?_) AllReady.nil
    go_simp
    refine hr.mono ?_
    rintro e w5 ⟨rfl, own5, x0, x1, hM5, s5⟩
    refine hK _ _ ?_
    clear hK K hr o0 o1 o2 o3 o4 o5 o6 o7 o8 o9 o10 o11 o12 o13 o14 o15 p0 p1 m0 m1 d16
    refine wpAny_take (i := 20) (v := ?_) rfl (by kernel_rfl) (by kernel_rfl) (by kernel_rfl) (fun _ _ _ h => h) (Or.inl ⟨by rfl, ?_⟩) ?_
    rotate_left
    · intro w
      go_simp
      with_reducible rfl
    refine wpAny_take (i := 21) (v := ?_) rfl (by kernel_rfl) (by kernel_rfl) (by kernel_rfl) (fun _ _ _ h => h) (Or.inl ⟨by rfl, ?_⟩) ?_
    rotate_left
    · intro w
      go_simp
      with_reducible rfl
    refine wpAny_take (i := 22) (v := ?_) rfl (by kernel_rfl) (by kernel_rfl) (by kernel_rfl) (fun _ _ _ h => h) (Or.inl ⟨by rfl, ?_⟩) ?_
    rotate_left
    · intro w
      go_simp
      with_reducible rfl
    refine wpAny_take (i := 23) (v := ?_) rfl (by kernel_rfl) (by kernel_rfl) (by kernel_rfl) (fun _ _ _ h => h) (Or.inl ⟨by rfl, ?_⟩) ?_
    rotate_left
    · intro w
      go_simp
      with_reducible rfl
    refine wpAny_take (i := 24) (v := ?_) rfl (by kernel_rfl) (by kernel_rfl) (by kernel_rfl) (fun _ _ _ h => h) (Or.inl ⟨by rfl, ?_⟩) ?_
    rotate_left
    · intro w
      go_simp
      with_reducible rfl
    refine wpAny_done (by kernel_rfl) ?_ _
    go_wp2_with fail
    go_ret
    refine ⟨rfl, own5, qs.set i { q with m := (doM q.m 1 o.k o.n o.p).1 }, ?_, ?_⟩
    · have sA : StepS (fun l => q.o ≤ l ∧ l ≤ q.o + 3) own own5 w w5 := ((st2 _).trans ((s3.wider (fun l hl => by omega)).trans (grown_stepS (grown_drew (grown_refl w3 none))))).trans (s5.wider (fun l hl => by omega))
      refine h.turn D hqi sA (fun l hl => hl) (by omega) ⟨?_, ⟨b0, b1, x0, x1, hM5⟩, doM_lim hL 1 o.k o.n o.p, ho3⟩
      have k3 : ¬ (q.o + 3 = q.o ∨ q.o + 3 = q.o + 1 ∨ q.o + 3 = q.o + 2) := by omega
      have k0 : ¬ (0 = q.o ∨ 0 = q.o + 1 ∨ 0 = q.o + 2) := by omega
      exact D.keep (D.keep hD3 (grown_stepS (T := fun _ => False) (grown_drew (grown_refl w3 none))) (by simp) (by simp)) s5 k3 k0
    · have n3 : ∀ l, l = q.o + 3 → l ≠ 0 := fun l hl => by omega
      have n5 : ∀ l, (l = q.o ∨ l = q.o + 1 ∨ l = q.o + 2) → l ≠ 0 := fun l hl => by omega
      exact ((st2 _).trans ((s3.wider n3).trans (grown_stepS (grown_drew (grown_refl w3 none))))).trans (s5.wider n5)

end Go.Proofs.YtmfdhcnnhlchbaaGreat

namespace Go.Proofs.YtmfdhcnnhlchbaaGreat
open Go.RowKit

set_option maxRecDepth 100000 in
set_option maxHeartbeats 1600000 in
theorem step_doNo {Dev : Nat → (Nat → Nat) → Nat → World → Nat → Mod → Prop} {kd : Int → Prop} (D : DevSide Dev kd) {own : Nat → Nat} {w : World} {W N : Nat} {qs : List PairS} {o : OpV} (h : Inv Dev own w W qs N) (hN : N ≤ 900000)
    (hk : o.kind = 2) (hc0 : (o.c == 0) = false) (hc1 : (o.c == 1) = false) (ha : -9223372036854775808 ≤ o.a ∧ o.a ≤ 9223372036854775807) (hq : 0 < qs.length) :
    Calls Tryz.prog 15 #[.pointer (some ⟨W, 0, none⟩), o.agg] w fun e w' => e = .returned (.bool true) ∧ StepTo Dev own w W N w' := by
  obtain ⟨ls, a, hW, hnl⟩ := h.wr
  have hil : pickV o.a qs.length < qs.length := pickV_lt o.a hq
  obtain ⟨i, hi⟩ : ∃ i, i = pickV o.a qs.length := ⟨_, rfl⟩
  have hpick := fun w => pick_is o.a qs.length w hq (by have := h.len; omega) ha
  rw [← hi] at hil hpick
  obtain ⟨q, hqi⟩ : ∃ q, qs[i]? = some q := ⟨_, List.getElem?_eq_getElem hil⟩
  obtain ⟨hD, ⟨b0, b1, a0, a1, hM⟩, hL, ho3⟩ := h.ok q (List.mem_of_getElem? hqi)
  have hps : (qs.map fun q => (q.x, q.bm))[i]? = some (q.x, q.bm) := by simp [hqi]
  have hrow := hW.bs
  obtain ⟨gb, hgb, _⟩ := owns_some' hrow (by simpa using hq)
  rw [hgb] at hrow
  obtain ⟨r0, r1⟩ := pair_cells hrow hps
  obtain ⟨y0, y1, y2, y3, yf⟩ := blk4 hW.blk
  rw [hgb] at y0
  simp only [List.length_map] at y0
  have hWl := blk_lt hW.blk
  have hgl : gb < w.heap.size := owns_lt hrow rfl
  have hq0 : ((qs.length : Int) == 0) = false := by rw [beq_eq_false_iff_ne]; omega
  have hil' : (i : Int) < (qs.length : Int) := by omega
  have HI : Hid (i = pickV o.a qs.length) := hi
  clear hi
  go_enter Tryz.func15, Tryz.ntmps15
  go_wp2_with fail
  obtain ⟨w1, hw1⟩ : ∃ w1 : World, w1 = w.alloc (.cells o.arr 33) := ⟨_, rfl⟩
  have g1 : w.grownBy w1 none := by rw [hw1]; exact World.grownBy_alloc _ _ _
  have hX1 : w1.heap[w.heap.size]? = some (.cells o.arr 33 (0, 0)) := by rw [hw1]; exact heap_alloc_new w _
  simp only [OpV.arr, hk] at hw1
  rw [← hw1]
  have hcell : ∀ b j v, b < w.heap.size → w.cell? ⟨b, j, none⟩ = some v → w1.cell? ⟨b, j, none⟩ = some v := fun b j v hb hv => (World.cell?_of_block (g1.block b hb (by simp))).trans hv
  replace r0 := hcell _ _ _ hgl r0
  replace r1 := hcell _ _ _ hgl r1
  replace y0 := hcell _ _ _ hWl y0
  obtain ⟨o0, o1, o2, o3, o4, o5, o6, o7, o8, o9, o10, o11, o12, o13, o14, o15, of⟩ := blkOp hX1
  have hz1 : w.heap.size < w1.heap.size := blk_lt hX1
  clear y1 y2 y3 yf hcell hw1
  go_region_held3 (fun w' => w'.cell? ⟨W, 0, none⟩ = some (.slice (some ⟨gb, 0, none⟩) qs.length a.cb) ∧ w'.cell? ⟨w.heap.size, 1, none⟩ = some (.int .i64 o.a) ∧ w'.cell? ⟨gb, i * 2, none⟩ = some (.pointer (some ⟨q.x, 0, none⟩)) ∧ w'.cell? ⟨gb, i * 2 + 1, none⟩ = some (.pointer (some ⟨q.bm, 0, none⟩))) (go_keep)
    (first | (go_at_call 20; refine (hpick _).mono ?_; rintro e w' ⟨rfl, rfl⟩))
  all_goals
    go_wp2_with fail
    obtain ⟨w2, hw2⟩ : ∃ w2 : World, w2 = (w1.alloc (.cells #[.pointer (some ⟨q.x, 0, none⟩), .pointer (some ⟨q.bm, 0, none⟩)] 52)).drew := ⟨_, rfl⟩
    rw [← hw2]
    have g2 : w.grownBy w2 none := by rw [hw2]; exact grown_drew (grown_alloc g1 _)
    have hX2 : w2.heap[w.heap.size]? = some (.cells o.arr 33 (0, 0)) := by rw [hw2]; exact (heap_alloc_old w1 _ hz1).trans hX1
    have hP2 : w2.heap[w1.heap.size]? = some (.cells #[.pointer (some ⟨q.x, 0, none⟩), .pointer (some ⟨q.bm, 0, none⟩)] 52 (0, 0)) := by rw [hw2]; exact heap_alloc_new w1 _
    clear hw2 o0 o1 o2 o3 o4 o5 o6 o7 o8 o9 o10 o11 o12 o13 o14 o15 of r0 r1 y0 hpick
    have st2 : ∀ T, StepS T own (relab own w) w w2 := fun T => (relab_step T own w).trans (grown_stepS g2)
    have hD2 : Dev N (relab own w) q.o w2 q.x q.m := D.keep hD (st2 (fun _ => False)) (by simp) (by simp)
    have hM2 : RefMod (relab own w) q.o w2 q.bm b0 b1 q.m a0 a1 := hM.keepS (st2 (fun _ => False)) (by simp) (by simp) (by simp) (by simp)
    have hz2 : w1.heap.size < w2.heap.size := blk_lt hP2
    refine (D.stepNo (c := o.c) (k := o.k) (n := o.n) (p := o.p) hD2 (by simpa using hc0) (by simpa using hc1)).mono ?_
    rintro e w3 ⟨rfl, g3⟩
    have hX3 := (g3.block _ (by omega) (by simp)).trans hX2
    obtain ⟨o0, o1, o2, o3, o4, o5, o6, o7, o8, o9, o10, o11, o12, o13, o14, o15, of⟩ := blkOp hX3
    go_wp2_with fail
    go_ret
    exact ⟨rfl, relab own w, qs, h.same D ((st2 (fun _ => False)).trans (grown_stepS g3)) (fun l hl => hl.elim) (by omega), (st2 _).trans (grown_stepS g3)⟩

end Go.Proofs.YtmfdhcnnhlchbaaGreat

namespace Go.Proofs.YtmfdhcnnhlchbaaGreat
open Go.RowKit

set_option maxRecDepth 100000 in
set_option maxHeartbeats 1600000 in
theorem step_taken0 {Dev : Nat → (Nat → Nat) → Nat → World → Nat → Mod → Prop} {kd : Int → Prop} (D : DevSide Dev kd) {own : Nat → Nat} {w : World} {W N : Nat} {qs : List PairS} {o : OpV} (h : Inv Dev own w W qs N) (hN : N ≤ 900000)
    (hk : o.kind = 7) (hoc : o.c = 0) (ha : -9223372036854775808 ≤ o.a ∧ o.a ≤ 9223372036854775807) (hq : 0 < qs.length) :
    Calls Tryz.prog 15 #[.pointer (some ⟨W, 0, none⟩), o.agg] w fun e w' => e = .returned (.bool true) ∧ StepTo Dev own w W N w' := by
  obtain ⟨ls, a, hW, hnl⟩ := h.wr
  have hil : pickV o.a qs.length < qs.length := pickV_lt o.a hq
  obtain ⟨i, hi⟩ : ∃ i, i = pickV o.a qs.length := ⟨_, rfl⟩
  have hpick := fun w => pick_is o.a qs.length w hq (by have := h.len; omega) ha
  rw [← hi] at hil hpick
  obtain ⟨q, hqi⟩ : ∃ q, qs[i]? = some q := ⟨_, List.getElem?_eq_getElem hil⟩
  obtain ⟨hD, ⟨b0, b1, a0, a1, hM⟩, hL, ho3⟩ := h.ok q (List.mem_of_getElem? hqi)
  have hps : (qs.map fun q => (q.x, q.bm))[i]? = some (q.x, q.bm) := by simp [hqi]
  have hrow := hW.bs
  obtain ⟨gb, hgb, _⟩ := owns_some' hrow (by simpa using hq)
  rw [hgb] at hrow
  obtain ⟨r0, r1⟩ := pair_cells hrow hps
  obtain ⟨y0, y1, y2, y3, yf⟩ := blk4 hW.blk
  rw [hgb] at y0
  simp only [List.length_map] at y0
  have hWl := blk_lt hW.blk
  have hgl : gb < w.heap.size := owns_lt hrow rfl
  have hq0 : ((qs.length : Int) == 0) = false := by rw [beq_eq_false_iff_ne]; omega
  have hil' : (i : Int) < (qs.length : Int) := by omega
  have HI : Hid (i = pickV o.a qs.length) := hi
  clear hi
  go_enter Tryz.func15, Tryz.ntmps15
  go_wp2_with fail
  obtain ⟨w1, hw1⟩ : ∃ w1 : World, w1 = w.alloc (.cells o.arr 33) := ⟨_, rfl⟩
  have g1 : w.grownBy w1 none := by rw [hw1]; exact World.grownBy_alloc _ _ _
  have hX1 : w1.heap[w.heap.size]? = some (.cells o.arr 33 (0, 0)) := by rw [hw1]; exact heap_alloc_new w _
  simp only [OpV.arr, hk, hoc] at hw1
  rw [← hw1]
  have hcell : ∀ b j v, b < w.heap.size → w.cell? ⟨b, j, none⟩ = some v → w1.cell? ⟨b, j, none⟩ = some v := fun b j v hb hv => (World.cell?_of_block (g1.block b hb (by simp))).trans hv
  replace r0 := hcell _ _ _ hgl r0
  replace r1 := hcell _ _ _ hgl r1
  replace y0 := hcell _ _ _ hWl y0
  obtain ⟨o0, o1, o2, o3, o4, o5, o6, o7, o8, o9, o10, o11, o12, o13, o14, o15, of⟩ := blkOp hX1
  have hz1 : w.heap.size < w1.heap.size := blk_lt hX1
  clear y1 y2 y3 yf hcell hw1
  go_region_held3 (fun w' => w'.cell? ⟨W, 0, none⟩ = some (.slice (some ⟨gb, 0, none⟩) qs.length a.cb) ∧ w'.cell? ⟨w.heap.size, 1, none⟩ = some (.int .i64 o.a) ∧ w'.cell? ⟨gb, i * 2, none⟩ = some (.pointer (some ⟨q.x, 0, none⟩)) ∧ w'.cell? ⟨gb, i * 2 + 1, none⟩ = some (.pointer (some ⟨q.bm, 0, none⟩))) (go_keep)
    (first | (go_at_call 20; refine (hpick _).mono ?_; rintro e w' ⟨rfl, rfl⟩))
  all_goals
    go_wp2_with fail
    obtain ⟨w2, hw2⟩ : ∃ w2 : World, w2 = (w1.alloc (.cells #[.pointer (some ⟨q.x, 0, none⟩), .pointer (some ⟨q.bm, 0, none⟩)] 52)).drew := ⟨_, rfl⟩
    rw [← hw2]
    have g2 : w.grownBy w2 none := by rw [hw2]; exact grown_drew (grown_alloc g1 _)
    have hX2 : w2.heap[w.heap.size]? = some (.cells o.arr 33 (0, 0)) := by rw [hw2]; exact (heap_alloc_old w1 _ hz1).trans hX1
    have hP2 : w2.heap[w1.heap.size]? = some (.cells #[.pointer (some ⟨q.x, 0, none⟩), .pointer (some ⟨q.bm, 0, none⟩)] 52 (0, 0)) := by rw [hw2]; exact heap_alloc_new w1 _
    clear hw2 o0 o1 o2 o3 o4 o5 o6 o7 o8 o9 o10 o11 o12 o13 o14 o15 of r0 r1 y0 hpick
    have st2 : ∀ T, StepS T own (relab own w) w w2 := fun T => (relab_step T own w).trans (grown_stepS g2)
    have hD2 : Dev N (relab own w) q.o w2 q.x q.m := D.keep hD (st2 (fun _ => False)) (by simp) (by simp)
    have hM2 : RefMod (relab own w) q.o w2 q.bm b0 b1 q.m a0 a1 := hM.keepS (st2 (fun _ => False)) (by simp) (by simp) (by simp) (by simp)
    have hz2 : w1.heap.size < w2.heap.size := blk_lt hP2
    obtain ⟨p0, p1, pf⟩ := blk2 hP2
    obtain ⟨m0, m1, m2, mf⟩ := blk3 hM2.blk
    have hDd : Dev N (relab own w) q.o w2.drew q.x q.m := D.keep hD2 (grown_stepS (T := fun _ => False) (grown_drew (grown_refl w2 none))) (by simp) (by simp)
    have hbm := blk_lt hM2.blk
    clear pf mf m0 m1
    go_region_held3 (fun w' => w'.cell? ⟨w1.heap.size, 0, none⟩ = some (.pointer (some ⟨q.x, 0, none⟩)) ∧ w'.cell? ⟨w1.heap.size, 1, none⟩ = some (.pointer (some ⟨q.bm, 0, none⟩)) ∧ w'.cell? ⟨q.bm, 2, none⟩ = some (.int .i64 q.m.taken)) (go_keep)
      (first | (go_at_call 29; refine (D.taken hDd).mono ?_; rintro e w3 ⟨rfl, g3⟩; have e1 := cell_grown g3 (b := w1.heap.size) hz2; have e2 := cell_grown g3 (b := q.bm) hbm; have g23 : w2.grownBy w3 none := grown_trans (grown_drew (grown_refl w2 none)) g3 (fun k e => by cases e)))
  all_goals
    go_wp2_with fail
    go_ret
    exact ⟨rfl, relab own w, qs, h.same D ((st2 (fun _ => False)).trans (grown_stepS g23)) (fun l hl => hl.elim) (by omega), (st2 _).trans (grown_stepS g23)⟩

end Go.Proofs.YtmfdhcnnhlchbaaGreat

namespace Go.Proofs.YtmfdhcnnhlchbaaGreat
open Go.RowKit

set_option maxRecDepth 100000 in
set_option maxHeartbeats 1600000 in
theorem step_taken1 {Dev : Nat → (Nat → Nat) → Nat → World → Nat → Mod → Prop} {kd : Int → Prop} (D : DevSide Dev kd) {own : Nat → Nat} {w : World} {W N : Nat} {qs : List PairS} {o : OpV} (h : Inv Dev own w W qs N) (hN : N ≤ 900000)
    (hk : o.kind = 7) (hoc : o.c = 1) (ha : -9223372036854775808 ≤ o.a ∧ o.a ≤ 9223372036854775807) (hq : 0 < qs.length) :
    Calls Tryz.prog 15 #[.pointer (some ⟨W, 0, none⟩), o.agg] w fun e w' => e = .returned (.bool true) ∧ StepTo Dev own w W N w' := by
  obtain ⟨ls, a, hW, hnl⟩ := h.wr
  have hil : pickV o.a qs.length < qs.length := pickV_lt o.a hq
  obtain ⟨i, hi⟩ : ∃ i, i = pickV o.a qs.length := ⟨_, rfl⟩
  have hpick := fun w => pick_is o.a qs.length w hq (by have := h.len; omega) ha
  rw [← hi] at hil hpick
  obtain ⟨q, hqi⟩ : ∃ q, qs[i]? = some q := ⟨_, List.getElem?_eq_getElem hil⟩
  obtain ⟨hD, ⟨b0, b1, a0, a1, hM⟩, hL, ho3⟩ := h.ok q (List.mem_of_getElem? hqi)
  have hps : (qs.map fun q => (q.x, q.bm))[i]? = some (q.x, q.bm) := by simp [hqi]
  have hrow := hW.bs
  obtain ⟨gb, hgb, _⟩ := owns_some' hrow (by simpa using hq)
  rw [hgb] at hrow
  obtain ⟨r0, r1⟩ := pair_cells hrow hps
  obtain ⟨y0, y1, y2, y3, yf⟩ := blk4 hW.blk
  rw [hgb] at y0
  simp only [List.length_map] at y0
  have hWl := blk_lt hW.blk
  have hgl : gb < w.heap.size := owns_lt hrow rfl
  have hq0 : ((qs.length : Int) == 0) = false := by rw [beq_eq_false_iff_ne]; omega
  have hil' : (i : Int) < (qs.length : Int) := by omega
  have HI : Hid (i = pickV o.a qs.length) := hi
  clear hi
  go_enter Tryz.func15, Tryz.ntmps15
  go_wp2_with fail
  obtain ⟨w1, hw1⟩ : ∃ w1 : World, w1 = w.alloc (.cells o.arr 33) := ⟨_, rfl⟩
  have g1 : w.grownBy w1 none := by rw [hw1]; exact World.grownBy_alloc _ _ _
  have hX1 : w1.heap[w.heap.size]? = some (.cells o.arr 33 (0, 0)) := by rw [hw1]; exact heap_alloc_new w _
  simp only [OpV.arr, hk, hoc] at hw1
  rw [← hw1]
  have hcell : ∀ b j v, b < w.heap.size → w.cell? ⟨b, j, none⟩ = some v → w1.cell? ⟨b, j, none⟩ = some v := fun b j v hb hv => (World.cell?_of_block (g1.block b hb (by simp))).trans hv
  replace r0 := hcell _ _ _ hgl r0
  replace r1 := hcell _ _ _ hgl r1
  replace y0 := hcell _ _ _ hWl y0
  obtain ⟨o0, o1, o2, o3, o4, o5, o6, o7, o8, o9, o10, o11, o12, o13, o14, o15, of⟩ := blkOp hX1
  have hz1 : w.heap.size < w1.heap.size := blk_lt hX1
  clear y1 y2 y3 yf hcell hw1
  go_region_held3 (fun w' => w'.cell? ⟨W, 0, none⟩ = some (.slice (some ⟨gb, 0, none⟩) qs.length a.cb) ∧ w'.cell? ⟨w.heap.size, 1, none⟩ = some (.int .i64 o.a) ∧ w'.cell? ⟨gb, i * 2, none⟩ = some (.pointer (some ⟨q.x, 0, none⟩)) ∧ w'.cell? ⟨gb, i * 2 + 1, none⟩ = some (.pointer (some ⟨q.bm, 0, none⟩))) (go_keep)
    (first | (go_at_call 20; refine (hpick _).mono ?_; rintro e w' ⟨rfl, rfl⟩))
  all_goals
    go_wp2_with fail
    obtain ⟨w2, hw2⟩ : ∃ w2 : World, w2 = (w1.alloc (.cells #[.pointer (some ⟨q.x, 0, none⟩), .pointer (some ⟨q.bm, 0, none⟩)] 52)).drew := ⟨_, rfl⟩
    rw [← hw2]
    have g2 : w.grownBy w2 none := by rw [hw2]; exact grown_drew (grown_alloc g1 _)
    have hX2 : w2.heap[w.heap.size]? = some (.cells o.arr 33 (0, 0)) := by rw [hw2]; exact (heap_alloc_old w1 _ hz1).trans hX1
    have hP2 : w2.heap[w1.heap.size]? = some (.cells #[.pointer (some ⟨q.x, 0, none⟩), .pointer (some ⟨q.bm, 0, none⟩)] 52 (0, 0)) := by rw [hw2]; exact heap_alloc_new w1 _
    clear hw2 o0 o1 o2 o3 o4 o5 o6 o7 o8 o9 o10 o11 o12 o13 o14 o15 of r0 r1 y0 hpick
    have st2 : ∀ T, StepS T own (relab own w) w w2 := fun T => (relab_step T own w).trans (grown_stepS g2)
    have hD2 : Dev N (relab own w) q.o w2 q.x q.m := D.keep hD (st2 (fun _ => False)) (by simp) (by simp)
    have hM2 : RefMod (relab own w) q.o w2 q.bm b0 b1 q.m a0 a1 := hM.keepS (st2 (fun _ => False)) (by simp) (by simp) (by simp) (by simp)
    have hz2 : w1.heap.size < w2.heap.size := blk_lt hP2
    obtain ⟨p0, p1, pf⟩ := blk2 hP2
    obtain ⟨m0, m1, m2, mf⟩ := blk3 hM2.blk
    have hDd : Dev N (relab own w) q.o w2.drew q.x q.m := D.keep hD2 (grown_stepS (T := fun _ => False) (grown_drew (grown_refl w2 none))) (by simp) (by simp)
    have hbm := blk_lt hM2.blk
    clear pf mf m0 m1
    go_region_held3 (fun w' => w'.cell? ⟨w1.heap.size, 0, none⟩ = some (.pointer (some ⟨q.x, 0, none⟩)) ∧ w'.cell? ⟨w1.heap.size, 1, none⟩ = some (.pointer (some ⟨q.bm, 0, none⟩)) ∧ w'.cell? ⟨q.bm, 2, none⟩ = some (.int .i64 q.m.taken)) (go_keep)
      (first | (go_at_call 29; refine (D.taken hDd).mono ?_; rintro e w3 ⟨rfl, g3⟩; have e1 := cell_grown g3 (b := w1.heap.size) hz2; have e2 := cell_grown g3 (b := q.bm) hbm; have g23 : w2.grownBy w3 none := grown_trans (grown_drew (grown_refl w2 none)) g3 (fun k e => by cases e)))
  all_goals
    go_wp2_with fail
    go_ret
    exact ⟨rfl, relab own w, qs, h.same D ((st2 (fun _ => False)).trans (grown_stepS g23)) (fun l hl => hl.elim) (by omega), (st2 _).trans (grown_stepS g23)⟩

end Go.Proofs.YtmfdhcnnhlchbaaGreat
