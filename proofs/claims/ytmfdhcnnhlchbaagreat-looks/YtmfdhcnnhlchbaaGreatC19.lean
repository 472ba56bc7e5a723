import Derived.Test.YtmfdhcnnhlchbaaGreatC07
import Derived.Test.YtmfdhcnnhlchbaaGreatC18
import Derived.Test.YtmfdhcnnhlchbaaGreatC08
import Derived.Test.YtmfdhcnnhlchbaaGreatC13
import Derived.Test.YtmfdhcnnhlchbaaGreatC14
import Derived.Test.YtmfdhcnnhlchbaaGreatC15
import Derived.Test.YtmfdhcnnhlchbaaGreatC16
import Derived.Test.YtmfdhcnnhlchbaaGreatC17
namespace Go.Proofs.YtmfdhcnnhlchbaaGreat
open Go.RowKit

set_option maxRecDepth 100000 in
set_option maxHeartbeats 1600000 in
theorem step_same0 {Dev : Nat → (Nat → Nat) → Nat → World → Nat → Mod → Prop} {kd : Int → Prop} (D : DevSide Dev kd) {own : Nat → Nat} {w : World} {W N : Nat} {qs : List PairS} {o : OpV} (h : Inv Dev own w W qs N) (hN : N ≤ 900000)
    (hk : o.kind = 6) (hoc : o.c = 0) (hn0 : 0 ≤ o.num) (hn2 : 0 ≤ o.n) (ha : -9223372036854775808 ≤ o.a ∧ o.a ≤ 9223372036854775807) (hq : 0 < qs.length) :
    Calls Tryz.prog 15 #[.pointer (some ⟨W, 0, none⟩), o.agg] w fun e w' => e = .returned (.bool true) ∧ StepTo Dev own w W N w' := by
  obtain ⟨ls, a, hW, hnl⟩ := h.wr
  have hil : pickV o.a qs.length < qs.length := pickV_lt o.a hq
  obtain ⟨i, hi⟩ : ∃ i, i = pickV o.a qs.length := ⟨_, rfl⟩
  have hpick := fun w => pick_is o.a qs.length w hq (by have := h.len; omega) ha
  rw [← hi] at hil hpick
  obtain ⟨q, hqi⟩ : ∃ q, qs[i]? = some q := ⟨_, List.getElem?_eq_getElem hil⟩
  obtain ⟨hD, ⟨b0, b1, a0, a1, hM⟩, hL, ho3⟩ := h.ok q (List.mem_of_getElem? hqi)
  have hps : (qs.map fun q => (q.x, q.bm))[i]? = some (q.x, q.bm) := by simp [hqi]
  have hrow := hW.bs
  obtain ⟨gb, hgb, _⟩ := owns_some' hrow (by simpa using hq)
  rw [hgb] at hrow
  obtain ⟨r0, r1⟩ := pair_cells hrow hps
  obtain ⟨y0, y1, y2, y3, yf⟩ := blk4 hW.blk
  rw [hgb] at y0
  simp only [List.length_map] at y0
  have hWl := blk_lt hW.blk
  have hgl : gb < w.heap.size := owns_lt hrow rfl
  have hq0 : ((qs.length : Int) == 0) = false := by rw [beq_eq_false_iff_ne]; omega
  have hil' : (i : Int) < (qs.length : Int) := by omega
  have HI : Hid (i = pickV o.a qs.length) := hi
  clear hi
  go_enter Tryz.func15, Tryz.ntmps15
  go_wp2_with fail
  obtain ⟨w1, hw1⟩ : ∃ w1 : World, w1 = w.alloc (.cells o.arr 33) := ⟨_, rfl⟩
  have g1 : w.grownBy w1 none := by rw [hw1]; exact World.grownBy_alloc _ _ _
  have hX1 : w1.heap[w.heap.size]? = some (.cells o.arr 33 (0, 0)) := by rw [hw1]; exact heap_alloc_new w _
  simp only [OpV.arr, hk, hoc] at hw1
  rw [← hw1]
  have hcell : ∀ b j v, b < w.heap.size → w.cell? ⟨b, j, none⟩ = some v → w1.cell? ⟨b, j, none⟩ = some v := fun b j v hb hv => (World.cell?_of_block (g1.block b hb (by simp))).trans hv
  replace r0 := hcell _ _ _ hgl r0
  replace r1 := hcell _ _ _ hgl r1
  replace y0 := hcell _ _ _ hWl y0
  obtain ⟨o0, o1, o2, o3, o4, o5, o6, o7, o8, o9, o10, o11, o12, o13, o14, o15, of⟩ := blkOp hX1
  have hz1 : w.heap.size < w1.heap.size := blk_lt hX1
  clear y1 y2 y3 yf hcell hw1
  go_region_held3 (fun w' => w'.cell? ⟨W, 0, none⟩ = some (.slice (some ⟨gb, 0, none⟩) qs.length a.cb) ∧ w'.cell? ⟨w.heap.size, 1, none⟩ = some (.int .i64 o.a) ∧ w'.cell? ⟨gb, i * 2, none⟩ = some (.pointer (some ⟨q.x, 0, none⟩)) ∧ w'.cell? ⟨gb, i * 2 + 1, none⟩ = some (.pointer (some ⟨q.bm, 0, none⟩))) (go_keep)
    (first | (go_at_call 20; refine (hpick _).mono ?_; rintro e w' ⟨rfl, rfl⟩))
  all_goals
    go_wp2_with fail
    obtain ⟨w2, hw2⟩ : ∃ w2 : World, w2 = (w1.alloc (.cells #[.pointer (some ⟨q.x, 0, none⟩), .pointer (some ⟨q.bm, 0, none⟩)] 52)).drew := ⟨_, rfl⟩
    rw [← hw2]
    have g2 : w.grownBy w2 none := by rw [hw2]; exact grown_drew (grown_alloc g1 _)
    have hX2 : w2.heap[w.heap.size]? = some (.cells o.arr 33 (0, 0)) := by rw [hw2]; exact (heap_alloc_old w1 _ hz1).trans hX1
    have hP2 : w2.heap[w1.heap.size]? = some (.cells #[.pointer (some ⟨q.x, 0, none⟩), .pointer (some ⟨q.bm, 0, none⟩)] 52 (0, 0)) := by rw [hw2]; exact heap_alloc_new w1 _
    clear hw2 o0 o1 o2 o3 o4 o5 o6 o7 o8 o9 o10 o11 o12 o13 o14 o15 of r0 r1 y0 hpick
    have st2 : ∀ T, StepS T own (relab own w) w w2 := fun T => (relab_step T own w).trans (grown_stepS g2)
    have hD2 : Dev N (relab own w) q.o w2 q.x q.m := D.keep hD (st2 (fun _ => False)) (by simp) (by simp)
    have hM2 : RefMod (relab own w) q.o w2 q.bm b0 b1 q.m a0 a1 := hM.keepS (st2 (fun _ => False)) (by simp) (by simp) (by simp) (by simp)
    have hz2 : w1.heap.size < w2.heap.size := blk_lt hP2
    have hX := blkOp hX2
    obtain ⟨o0, o1, o2, o3, o4, o5, o6, o7, o8, o9, o10, o11, o12, o13, o14, o15, of⟩ := hX
    obtain ⟨p0, p1, pf⟩ := blk2 hP2
    rw [hk] at o0
    rw [hoc] at o2
    have hDd : Dev N (relab own w) q.o w2.drew q.x q.m := D.keep hD2 (grown_stepS (T := fun _ => False) (grown_drew (grown_refl w2 none))) (by simp) (by simp)
    have hds := D.same (c := 0) (n := o.num) (d := o.d) (n2 := o.n) hDd hL (by omega) hn0 hn2
    have hal : ∀ w3, w2.drew.grownBy w3 none → Calls Tryz.prog 28 #[.pointer (some ⟨q.bm, 0, none⟩), OpV.agg { o with kind := 6, c := 0 }] w3 fun e w' => e = .returned (.bool (sameM q.m 0 o.num o.d o.n)) ∧ w3.grownBy w' none := fun w3 g3 => alike_spec (o := { o with kind := 6, c := 0 }) (hM2.keepS (grown_stepS (T := fun _ => False) (grown_trans (grown_drew (grown_refl w2 none)) g3 (fun k e => by cases e))) (by simp) (by simp) (by simp) (by simp)) hL (by omega) hn0 hn2
    generalize sameM q.m 0 o.num o.d o.n = B at hds hal
    have HAL : Hid (∀ w3, w2.drew.grownBy w3 none → Calls Tryz.prog 28 #[.pointer (some ⟨q.bm, 0, none⟩), OpV.agg { o with kind := 6, c := 0 }] w3 fun e w' => e = .returned (.bool B) ∧ w3.grownBy w' none) := hal
    clear hal pf of
    have z1 : w.heap.size < w2.heap.size := by omega
    go_region_held3 (fun w' => w'.cell? ⟨w1.heap.size, 0, none⟩ = some (.pointer (some ⟨q.x, 0, none⟩)) ∧ w'.cell? ⟨w1.heap.size, 1, none⟩ = some (.pointer (some ⟨q.bm, 0, none⟩)) ∧ w'.cell? ⟨w.heap.size, 0, none⟩ = some (.int .i64 6) ∧ w'.cell? ⟨w.heap.size, 1, none⟩ = some (.int .i64 o.a) ∧ w'.cell? ⟨w.heap.size, 2, none⟩ = some (.int .i64 0) ∧ w'.cell? ⟨w.heap.size, 3, none⟩ = some (.int .i64 o.k) ∧ w'.cell? ⟨w.heap.size, 4, none⟩ = some (.int .u64 o.n) ∧ w'.cell? ⟨w.heap.size, 5, none⟩ = some (.int .u64 o.p.seq) ∧ w'.cell? ⟨w.heap.size, 6, none⟩ = some (.int .i64 o.p.src) ∧ w'.cell? ⟨w.heap.size, 7, none⟩ = some (.int .i64 o.p.dst) ∧ w'.cell? ⟨w.heap.size, 8, none⟩ = some (.int .i64 o.p.coin) ∧ w'.cell? ⟨w.heap.size, 9, none⟩ = some (.int .u64 o.p.amount) ∧ w'.cell? ⟨w.heap.size, 10, none⟩ = some (.int .u64 o.p.height) ∧ w'.cell? ⟨w.heap.size, 11, none⟩ = some (.int .u64 o.p.time) ∧ w'.cell? ⟨w.heap.size, 12, none⟩ = some (.slice o.vl o.nl o.cl) ∧ w'.cell? ⟨w.heap.size, 13, none⟩ = some (.slice o.vm o.nm o.cm) ∧ w'.cell? ⟨w.heap.size, 14, none⟩ = some (.int .u64 o.num) ∧ w'.cell? ⟨w.heap.size, 15, none⟩ = some (.int .i64 o.d)) (go_keep)
      (first | (go_at_call 27; refine hds.mono ?_; rintro e w3 ⟨rfl, g3⟩; have e1 := cell_grown g3 (b := w1.heap.size) hz2; have e2 := cell_grown g3 (b := w.heap.size) z1) | (go_at_call 28; refine (HAL.out _ (by assumption)).mono ?_; rintro e w4 ⟨rfl, g4⟩; have e3 := cell_grown g4 (b := w1.heap.size) (Nat.lt_of_lt_of_le hz2 g3.size); have e4 := cell_grown g4 (b := w.heap.size) (Nat.lt_of_lt_of_le z1 g3.size)))
  all_goals
    go_wp2_with fail
    go_ret
    have g24 : w2.grownBy w4 none := grown_trans (grown_trans (grown_drew (grown_refl w2 none)) g3 (fun k e => by cases e)) g4 (fun k e => by cases e)
    exact ⟨rfl, relab own w, qs, h.same D ((st2 (fun _ => False)).trans (grown_stepS g24)) (fun l hl => hl.elim) (by omega), (st2 _).trans (grown_stepS g24)⟩

end Go.Proofs.YtmfdhcnnhlchbaaGreat

namespace Go.Proofs.YtmfdhcnnhlchbaaGreat
open Go.RowKit

set_option maxRecDepth 100000 in
set_option maxHeartbeats 1600000 in
theorem step_same1 {Dev : Nat → (Nat → Nat) → Nat → World → Nat → Mod → Prop} {kd : Int → Prop} (D : DevSide Dev kd) {own : Nat → Nat} {w : World} {W N : Nat} {qs : List PairS} {o : OpV} (h : Inv Dev own w W qs N) (hN : N ≤ 900000)
    (hk : o.kind = 6) (hoc : o.c = 1) (hn0 : 0 ≤ o.num) (hn2 : 0 ≤ o.n) (ha : -9223372036854775808 ≤ o.a ∧ o.a ≤ 9223372036854775807) (hq : 0 < qs.length) :
    Calls Tryz.prog 15 #[.pointer (some ⟨W, 0, none⟩), o.agg] w fun e w' => e = .returned (.bool true) ∧ StepTo Dev own w W N w' := by
  obtain ⟨ls, a, hW, hnl⟩ := h.wr
  have hil : pickV o.a qs.length < qs.length := pickV_lt o.a hq
  obtain ⟨i, hi⟩ : ∃ i, i = pickV o.a qs.length := ⟨_, rfl⟩
  have hpick := fun w => pick_is o.a qs.length w hq (by have := h.len; omega) ha
  rw [← hi] at hil hpick
  obtain ⟨q, hqi⟩ : ∃ q, qs[i]? = some q := ⟨_, List.getElem?_eq_getElem hil⟩
  obtain ⟨hD, ⟨b0, b1, a0, a1, hM⟩, hL, ho3⟩ := h.ok q (List.mem_of_getElem? hqi)
  have hps : (qs.map fun q => (q.x, q.bm))[i]? = some (q.x, q.bm) := by simp [hqi]
  have hrow := hW.bs
  obtain ⟨gb, hgb, _⟩ := owns_some' hrow (by simpa using hq)
  rw [hgb] at hrow
  obtain ⟨r0, r1⟩ := pair_cells hrow hps
  obtain ⟨y0, y1, y2, y3, yf⟩ := blk4 hW.blk
  rw [hgb] at y0
  simp only [List.length_map] at y0
  have hWl := blk_lt hW.blk
  have hgl : gb < w.heap.size := owns_lt hrow rfl
  have hq0 : ((qs.length : Int) == 0) = false := by rw [beq_eq_false_iff_ne]; omega
  have hil' : (i : Int) < (qs.length : Int) := by omega
  have HI : Hid (i = pickV o.a qs.length) := hi
  clear hi
  go_enter Tryz.func15, Tryz.ntmps15
  go_wp2_with fail
  obtain ⟨w1, hw1⟩ : ∃ w1 : World, w1 = w.alloc (.cells o.arr 33) := ⟨_, rfl⟩
  have g1 : w.grownBy w1 none := by rw [hw1]; exact World.grownBy_alloc _ _ _
  have hX1 : w1.heap[w.heap.size]? = some (.cells o.arr 33 (0, 0)) := by rw [hw1]; exact heap_alloc_new w _
  simp only [OpV.arr, hk, hoc] at hw1
  rw [← hw1]
  have hcell : ∀ b j v, b < w.heap.size → w.cell? ⟨b, j, none⟩ = some v → w1.cell? ⟨b, j, none⟩ = some v := fun b j v hb hv => (World.cell?_of_block (g1.block b hb (by simp))).trans hv
  replace r0 := hcell _ _ _ hgl r0
  replace r1 := hcell _ _ _ hgl r1
  replace y0 := hcell _ _ _ hWl y0
  obtain ⟨o0, o1, o2, o3, o4, o5, o6, o7, o8, o9, o10, o11, o12, o13, o14, o15, of⟩ := blkOp hX1
  have hz1 : w.heap.size < w1.heap.size := blk_lt hX1
  clear y1 y2 y3 yf hcell hw1
  go_region_held3 (fun w' => w'.cell? ⟨W, 0, none⟩ = some (.slice (some ⟨gb, 0, none⟩) qs.length a.cb) ∧ w'.cell? ⟨w.heap.size, 1, none⟩ = some (.int .i64 o.a) ∧ w'.cell? ⟨gb, i * 2, none⟩ = some (.pointer (some ⟨q.x, 0, none⟩)) ∧ w'.cell? ⟨gb, i * 2 + 1, none⟩ = some (.pointer (some ⟨q.bm, 0, none⟩))) (go_keep)
    (first | (go_at_call 20; refine (hpick _).mono ?_; rintro e w' ⟨rfl, rfl⟩))
  all_goals
    go_wp2_with fail
    obtain ⟨w2, hw2⟩ : ∃ w2 : World, w2 = (w1.alloc (.cells #[.pointer (some ⟨q.x, 0, none⟩), .pointer (some ⟨q.bm, 0, none⟩)] 52)).drew := ⟨_, rfl⟩
    rw [← hw2]
    have g2 : w.grownBy w2 none := by rw [hw2]; exact grown_drew (grown_alloc g1 _)
    have hX2 : w2.heap[w.heap.size]? = some (.cells o.arr 33 (0, 0)) := by rw [hw2]; exact (heap_alloc_old w1 _ hz1).trans hX1
    have hP2 : w2.heap[w1.heap.size]? = some (.cells #[.pointer (some ⟨q.x, 0, none⟩), .pointer (some ⟨q.bm, 0, none⟩)] 52 (0, 0)) := by rw [hw2]; exact heap_alloc_new w1 _
    clear hw2 o0 o1 o2 o3 o4 o5 o6 o7 o8 o9 o10 o11 o12 o13 o14 o15 of r0 r1 y0 hpick
    have st2 : ∀ T, StepS T own (relab own w) w w2 := fun T => (relab_step T own w).trans (grown_stepS g2)
    have hD2 : Dev N (relab own w) q.o w2 q.x q.m := D.keep hD (st2 (fun _ => False)) (by simp) (by simp)
    have hM2 : RefMod (relab own w) q.o w2 q.bm b0 b1 q.m a0 a1 := hM.keepS (st2 (fun _ => False)) (by simp) (by simp) (by simp) (by simp)
    have hz2 : w1.heap.size < w2.heap.size := blk_lt hP2
    have hX := blkOp hX2
    obtain ⟨o0, o1, o2, o3, o4, o5, o6, o7, o8, o9, o10, o11, o12, o13, o14, o15, of⟩ := hX
    obtain ⟨p0, p1, pf⟩ := blk2 hP2
    rw [hk] at o0
    rw [hoc] at o2
    have hDd : Dev N (relab own w) q.o w2.drew q.x q.m := D.keep hD2 (grown_stepS (T := fun _ => False) (grown_drew (grown_refl w2 none))) (by simp) (by simp)
    have hds := D.same (c := 1) (n := o.num) (d := o.d) (n2 := o.n) hDd hL (by omega) hn0 hn2
    have hal : ∀ w3, w2.drew.grownBy w3 none → Calls Tryz.prog 28 #[.pointer (some ⟨q.bm, 0, none⟩), OpV.agg { o with kind := 6, c := 1 }] w3 fun e w' => e = .returned (.bool (sameM q.m 1 o.num o.d o.n)) ∧ w3.grownBy w' none := fun w3 g3 => alike_spec (o := { o with kind := 6, c := 1 }) (hM2.keepS (grown_stepS (T := fun _ => False) (grown_trans (grown_drew (grown_refl w2 none)) g3 (fun k e => by cases e))) (by simp) (by simp) (by simp) (by simp)) hL (by omega) hn0 hn2
    generalize sameM q.m 1 o.num o.d o.n = B at hds hal
    have HAL : Hid (∀ w3, w2.drew.grownBy w3 none → Calls Tryz.prog 28 #[.pointer (some ⟨q.bm, 0, none⟩), OpV.agg { o with kind := 6, c := 1 }] w3 fun e w' => e = .returned (.bool B) ∧ w3.grownBy w' none) := hal
    clear hal pf of
    have z1 : w.heap.size < w2.heap.size := by omega
    go_region_held3 (fun w' => w'.cell? ⟨w1.heap.size, 0, none⟩ = some (.pointer (some ⟨q.x, 0, none⟩)) ∧ w'.cell? ⟨w1.heap.size, 1, none⟩ = some (.pointer (some ⟨q.bm, 0, none⟩)) ∧ w'.cell? ⟨w.heap.size, 0, none⟩ = some (.int .i64 6) ∧ w'.cell? ⟨w.heap.size, 1, none⟩ = some (.int .i64 o.a) ∧ w'.cell? ⟨w.heap.size, 2, none⟩ = some (.int .i64 1) ∧ w'.cell? ⟨w.heap.size, 3, none⟩ = some (.int .i64 o.k) ∧ w'.cell? ⟨w.heap.size, 4, none⟩ = some (.int .u64 o.n) ∧ w'.cell? ⟨w.heap.size, 5, none⟩ = some (.int .u64 o.p.seq) ∧ w'.cell? ⟨w.heap.size, 6, none⟩ = some (.int .i64 o.p.src) ∧ w'.cell? ⟨w.heap.size, 7, none⟩ = some (.int .i64 o.p.dst) ∧ w'.cell? ⟨w.heap.size, 8, none⟩ = some (.int .i64 o.p.coin) ∧ w'.cell? ⟨w.heap.size, 9, none⟩ = some (.int .u64 o.p.amount) ∧ w'.cell? ⟨w.heap.size, 10, none⟩ = some (.int .u64 o.p.height) ∧ w'.cell? ⟨w.heap.size, 11, none⟩ = some (.int .u64 o.p.time) ∧ w'.cell? ⟨w.heap.size, 12, none⟩ = some (.slice o.vl o.nl o.cl) ∧ w'.cell? ⟨w.heap.size, 13, none⟩ = some (.slice o.vm o.nm o.cm) ∧ w'.cell? ⟨w.heap.size, 14, none⟩ = some (.int .u64 o.num) ∧ w'.cell? ⟨w.heap.size, 15, none⟩ = some (.int .i64 o.d)) (go_keep)
      (first | (go_at_call 27; refine hds.mono ?_; rintro e w3 ⟨rfl, g3⟩; have e1 := cell_grown g3 (b := w1.heap.size) hz2; have e2 := cell_grown g3 (b := w.heap.size) z1) | (go_at_call 28; refine (HAL.out _ (by assumption)).mono ?_; rintro e w4 ⟨rfl, g4⟩; have e3 := cell_grown g4 (b := w1.heap.size) (Nat.lt_of_lt_of_le hz2 g3.size); have e4 := cell_grown g4 (b := w.heap.size) (Nat.lt_of_lt_of_le z1 g3.size)))
  all_goals
    go_wp2_with fail
    go_ret
    have g24 : w2.grownBy w4 none := grown_trans (grown_trans (grown_drew (grown_refl w2 none)) g3 (fun k e => by cases e)) g4 (fun k e => by cases e)
    exact ⟨rfl, relab own w, qs, h.same D ((st2 (fun _ => False)).trans (grown_stepS g24)) (fun l hl => hl.elim) (by omega), (st2 _).trans (grown_stepS g24)⟩

end Go.Proofs.YtmfdhcnnhlchbaaGreat

namespace Go.Proofs.YtmfdhcnnhlchbaaGreat
open Go.RowKit

set_option maxRecDepth 100000 in
set_option maxHeartbeats 1600000 in
theorem step_sameN {Dev : Nat → (Nat → Nat) → Nat → World → Nat → Mod → Prop} {kd : Int → Prop} (D : DevSide Dev kd) {own : Nat → Nat} {w : World} {W N : Nat} {qs : List PairS} {o : OpV} (h : Inv Dev own w W qs N) (hN : N ≤ 900000)
    (hk : o.kind = 6) (hc0 : (o.c == 0) = false) (hc1 : (o.c == 1) = false) (hn0 : 0 ≤ o.num) (hn2 : 0 ≤ o.n) (ha : -9223372036854775808 ≤ o.a ∧ o.a ≤ 9223372036854775807) (hq : 0 < qs.length) :
    Calls Tryz.prog 15 #[.pointer (some ⟨W, 0, none⟩), o.agg] w fun e w' => e = .returned (.bool true) ∧ StepTo Dev own w W N w' := by
  obtain ⟨ls, a, hW, hnl⟩ := h.wr
  have hil : pickV o.a qs.length < qs.length := pickV_lt o.a hq
  obtain ⟨i, hi⟩ : ∃ i, i = pickV o.a qs.length := ⟨_, rfl⟩
  have hpick := fun w => pick_is o.a qs.length w hq (by have := h.len; omega) ha
  rw [← hi] at hil hpick
  obtain ⟨q, hqi⟩ : ∃ q, qs[i]? = some q := ⟨_, List.getElem?_eq_getElem hil⟩
  obtain ⟨hD, ⟨b0, b1, a0, a1, hM⟩, hL, ho3⟩ := h.ok q (List.mem_of_getElem? hqi)
  have hps : (qs.map fun q => (q.x, q.bm))[i]? = some (q.x, q.bm) := by simp [hqi]
  have hrow := hW.bs
  obtain ⟨gb, hgb, _⟩ := owns_some' hrow (by simpa using hq)
  rw [hgb] at hrow
  obtain ⟨r0, r1⟩ := pair_cells hrow hps
  obtain ⟨y0, y1, y2, y3, yf⟩ := blk4 hW.blk
  rw [hgb] at y0
  simp only [List.length_map] at y0
  have hWl := blk_lt hW.blk
  have hgl : gb < w.heap.size := owns_lt hrow rfl
  have hq0 : ((qs.length : Int) == 0) = false := by rw [beq_eq_false_iff_ne]; omega
  have hil' : (i : Int) < (qs.length : Int) := by omega
  have HI : Hid (i = pickV o.a qs.length) := hi
  clear hi
  go_enter Tryz.func15, Tryz.ntmps15
  go_wp2_with fail
  obtain ⟨w1, hw1⟩ : ∃ w1 : World, w1 = w.alloc (.cells o.arr 33) := ⟨_, rfl⟩
  have g1 : w.grownBy w1 none := by rw [hw1]; exact World.grownBy_alloc _ _ _
  have hX1 : w1.heap[w.heap.size]? = some (.cells o.arr 33 (0, 0)) := by rw [hw1]; exact heap_alloc_new w _
  simp only [OpV.arr, hk] at hw1
  rw [← hw1]
  have hcell : ∀ b j v, b < w.heap.size → w.cell? ⟨b, j, none⟩ = some v → w1.cell? ⟨b, j, none⟩ = some v := fun b j v hb hv => (World.cell?_of_block (g1.block b hb (by simp))).trans hv
  replace r0 := hcell _ _ _ hgl r0
  replace r1 := hcell _ _ _ hgl r1
  replace y0 := hcell _ _ _ hWl y0
  obtain ⟨o0, o1, o2, o3, o4, o5, o6, o7, o8, o9, o10, o11, o12, o13, o14, o15, of⟩ := blkOp hX1
  have hz1 : w.heap.size < w1.heap.size := blk_lt hX1
  clear y1 y2 y3 yf hcell hw1
  go_region_held3 (fun w' => w'.cell? ⟨W, 0, none⟩ = some (.slice (some ⟨gb, 0, none⟩) qs.length a.cb) ∧ w'.cell? ⟨w.heap.size, 1, none⟩ = some (.int .i64 o.a) ∧ w'.cell? ⟨gb, i * 2, none⟩ = some (.pointer (some ⟨q.x, 0, none⟩)) ∧ w'.cell? ⟨gb, i * 2 + 1, none⟩ = some (.pointer (some ⟨q.bm, 0, none⟩))) (go_keep)
    (first | (go_at_call 20; refine (hpick _).mono ?_; rintro e w' ⟨rfl, rfl⟩))
  all_goals
    go_wp2_with fail
    obtain ⟨w2, hw2⟩ : ∃ w2 : World, w2 = (w1.alloc (.cells #[.pointer (some ⟨q.x, 0, none⟩), .pointer (some ⟨q.bm, 0, none⟩)] 52)).drew := ⟨_, rfl⟩
    rw [← hw2]
    have g2 : w.grownBy w2 none := by rw [hw2]; exact grown_drew (grown_alloc g1 _)
    have hX2 : w2.heap[w.heap.size]? = some (.cells o.arr 33 (0, 0)) := by rw [hw2]; exact (heap_alloc_old w1 _ hz1).trans hX1
    have hP2 : w2.heap[w1.heap.size]? = some (.cells #[.pointer (some ⟨q.x, 0, none⟩), .pointer (some ⟨q.bm, 0, none⟩)] 52 (0, 0)) := by rw [hw2]; exact heap_alloc_new w1 _
    clear hw2 o0 o1 o2 o3 o4 o5 o6 o7 o8 o9 o10 o11 o12 o13 o14 o15 of r0 r1 y0 hpick
    have st2 : ∀ T, StepS T own (relab own w) w w2 := fun T => (relab_step T own w).trans (grown_stepS g2)
    have hD2 : Dev N (relab own w) q.o w2 q.x q.m := D.keep hD (st2 (fun _ => False)) (by simp) (by simp)
    have hM2 : RefMod (relab own w) q.o w2 q.bm b0 b1 q.m a0 a1 := hM.keepS (st2 (fun _ => False)) (by simp) (by simp) (by simp) (by simp)
    have hz2 : w1.heap.size < w2.heap.size := blk_lt hP2
    have hX := blkOp hX2
    obtain ⟨o0, o1, o2, o3, o4, o5, o6, o7, o8, o9, o10, o11, o12, o13, o14, o15, of⟩ := hX
    obtain ⟨p0, p1, pf⟩ := blk2 hP2
    rw [hk] at o0
    skip
    have hDd : Dev N (relab own w) q.o w2.drew q.x q.m := D.keep hD2 (grown_stepS (T := fun _ => False) (grown_drew (grown_refl w2 none))) (by simp) (by simp)
    have hds := D.same (c := o.c) (n := o.num) (d := o.d) (n2 := o.n) hDd hL (by omega) hn0 hn2
    have hal : ∀ w3, w2.drew.grownBy w3 none → Calls Tryz.prog 28 #[.pointer (some ⟨q.bm, 0, none⟩), OpV.agg { o with kind := 6 }] w3 fun e w' => e = .returned (.bool (sameM q.m o.c o.num o.d o.n)) ∧ w3.grownBy w' none := fun w3 g3 => alike_spec (o := { o with kind := 6 }) (hM2.keepS (grown_stepS (T := fun _ => False) (grown_trans (grown_drew (grown_refl w2 none)) g3 (fun k e => by cases e))) (by simp) (by simp) (by simp) (by simp)) hL (by omega) hn0 hn2
    generalize sameM q.m o.c o.num o.d o.n = B at hds hal
    have HAL : Hid (∀ w3, w2.drew.grownBy w3 none → Calls Tryz.prog 28 #[.pointer (some ⟨q.bm, 0, none⟩), OpV.agg { o with kind := 6 }] w3 fun e w' => e = .returned (.bool B) ∧ w3.grownBy w' none) := hal
    clear hal pf of
    have z1 : w.heap.size < w2.heap.size := by omega
    go_region_held3 (fun w' => w'.cell? ⟨w1.heap.size, 0, none⟩ = some (.pointer (some ⟨q.x, 0, none⟩)) ∧ w'.cell? ⟨w1.heap.size, 1, none⟩ = some (.pointer (some ⟨q.bm, 0, none⟩)) ∧ w'.cell? ⟨w.heap.size, 0, none⟩ = some (.int .i64 6) ∧ w'.cell? ⟨w.heap.size, 1, none⟩ = some (.int .i64 o.a) ∧ w'.cell? ⟨w.heap.size, 2, none⟩ = some (.int .i64 o.c) ∧ w'.cell? ⟨w.heap.size, 3, none⟩ = some (.int .i64 o.k) ∧ w'.cell? ⟨w.heap.size, 4, none⟩ = some (.int .u64 o.n) ∧ w'.cell? ⟨w.heap.size, 5, none⟩ = some (.int .u64 o.p.seq) ∧ w'.cell? ⟨w.heap.size, 6, none⟩ = some (.int .i64 o.p.src) ∧ w'.cell? ⟨w.heap.size, 7, none⟩ = some (.int .i64 o.p.dst) ∧ w'.cell? ⟨w.heap.size, 8, none⟩ = some (.int .i64 o.p.coin) ∧ w'.cell? ⟨w.heap.size, 9, none⟩ = some (.int .u64 o.p.amount) ∧ w'.cell? ⟨w.heap.size, 10, none⟩ = some (.int .u64 o.p.height) ∧ w'.cell? ⟨w.heap.size, 11, none⟩ = some (.int .u64 o.p.time) ∧ w'.cell? ⟨w.heap.size, 12, none⟩ = some (.slice o.vl o.nl o.cl) ∧ w'.cell? ⟨w.heap.size, 13, none⟩ = some (.slice o.vm o.nm o.cm) ∧ w'.cell? ⟨w.heap.size, 14, none⟩ = some (.int .u64 o.num) ∧ w'.cell? ⟨w.heap.size, 15, none⟩ = some (.int .i64 o.d)) (go_keep)
      (first | (go_at_call 27; refine hds.mono ?_; rintro e w3 ⟨rfl, g3⟩; have e1 := cell_grown g3 (b := w1.heap.size) hz2; have e2 := cell_grown g3 (b := w.heap.size) z1) | (go_at_call 28; refine (HAL.out _ (by assumption)).mono ?_; rintro e w4 ⟨rfl, g4⟩; have e3 := cell_grown g4 (b := w1.heap.size) (Nat.lt_of_lt_of_le hz2 g3.size); have e4 := cell_grown g4 (b := w.heap.size) (Nat.lt_of_lt_of_le z1 g3.size)))
  all_goals
    go_wp2_with fail
    go_ret
    have g24 : w2.grownBy w4 none := grown_trans (grown_trans (grown_drew (grown_refl w2 none)) g3 (fun k e => by cases e)) g4 (fun k e => by cases e)
    exact ⟨rfl, relab own w, qs, h.same D ((st2 (fun _ => False)).trans (grown_stepS g24)) (fun l hl => hl.elim) (by omega), (st2 _).trans (grown_stepS g24)⟩

end Go.Proofs.YtmfdhcnnhlchbaaGreat

namespace Go.Proofs.YtmfdhcnnhlchbaaGreat
open Go.RowKit

/-- A step of the law, whatever it is but a Run: it answers true. -/
theorem step_spec {Dev : Nat → (Nat → Nat) → Nat → World → Nat → Mod → Prop} {kd : Int → Prop} (D : DevSide Dev kd) (hkd : ∀ k, kd k) : StepSpec Dev (fun o => o.kind ≠ 8) := by
  intro own w W N qs o h hN hO hok
  obtain ⟨a0, a1, n0, m0, n1, d0, d1, c0', c1'⟩ := hO
  have h8 := hok
  by_cases k1 : o.kind = 1
  · by_cases hn : (1152921504606846976 : Int) < o.num
    · exact step_newNo D h k1 hn
    · exact step_new D h hN k1 m0 hn
  rcases Nat.eq_zero_or_pos qs.length with hq | hq
  · obtain rfl : qs = [] := List.eq_nil_of_length_eq_zero hq
    exact step_none D h (by simp [k1])
  have hc : o.c = 0 ∨ o.c = 1 ∨ ((o.c == 0) = false ∧ (o.c == 1) = false) := by simp; omega
  by_cases k2 : o.kind = 2
  · rcases hc with hc | hc | ⟨c0, c1⟩
    · exact step_do0 D h hN k2 hc (hkd _) ⟨n0, n1⟩ ⟨a0, a1⟩ hq
    · exact step_do1 D h hN k2 hc (hkd _) ⟨n0, n1⟩ ⟨a0, a1⟩ hq
    · exact step_doNo D h hN k2 c0 c1 ⟨a0, a1⟩ hq
  by_cases k3 : o.kind = 3
  · rcases hc with hc | hc | ⟨c0, c1⟩
    · exact step_look0 D h hN k3 hc ⟨a0, a1⟩ hq
    · exact step_look1 D h hN k3 hc ⟨a0, a1⟩ hq
    · exact step_lookN D h hN k3 c0 c1 ⟨a0, a1⟩ hq
  by_cases k4 : o.kind = 4
  · by_cases hb : o.d < 0 ∨ 2 < o.d ∨ o.p.coin < 0 ∨ 1 < o.p.coin
    · rcases hc with hc | hc | ⟨c0, c1⟩
      · exact step_balBad0 D h hN k4 hc hb ⟨d0, d1⟩ ⟨c0', c1'⟩ ⟨a0, a1⟩ hq
      · exact step_balBad1 D h hN k4 hc hb ⟨d0, d1⟩ ⟨c0', c1'⟩ ⟨a0, a1⟩ hq
      · exact step_balN D h hN k4 c0 c1 ⟨d0, d1⟩ ⟨c0', c1'⟩ ⟨a0, a1⟩ hq
    · rcases hc with hc | hc | ⟨c0, c1⟩
      · exact step_bal0 D h hN k4 hc (by omega) (by omega) ⟨d0, d1⟩ ⟨c0', c1'⟩ ⟨a0, a1⟩ hq
      · exact step_bal1 D h hN k4 hc (by omega) (by omega) ⟨d0, d1⟩ ⟨c0', c1'⟩ ⟨a0, a1⟩ hq
      · exact step_balN D h hN k4 c0 c1 ⟨d0, d1⟩ ⟨c0', c1'⟩ ⟨a0, a1⟩ hq
  by_cases k5 : o.kind = 5
  · have hil : pickV o.a qs.length < qs.length := pickV_lt o.a hq
    obtain ⟨q, hqi⟩ : ∃ q, qs[pickV o.a qs.length]? = some q := ⟨_, List.getElem?_eq_getElem hil⟩
    obtain ⟨n, hn⟩ := Int.eq_ofNat_of_zero_le m0
    rcases hc with hc | hc | ⟨c0, c1⟩
    · by_cases hf : (q.m.c0.heads.length : Int) ≤ o.num
      · exact step_headFar0 D h hN k5 hc (fun r hr => by rw [hqi] at hr; cases hr; exact hf) ⟨a0, a1⟩ hq
      · exact step_head0 D h hN k5 hc (n := n) hn (fun r hr => by rw [hqi] at hr; cases hr; omega) ⟨a0, a1⟩ hq
    · by_cases hf : (q.m.c1.heads.length : Int) ≤ o.num
      · exact step_headFar1 D h hN k5 hc (fun r hr => by rw [hqi] at hr; cases hr; exact hf) ⟨a0, a1⟩ hq
      · exact step_head1 D h hN k5 hc (n := n) hn (fun r hr => by rw [hqi] at hr; cases hr; omega) ⟨a0, a1⟩ hq
    · exact step_headN D h hN k5 c0 c1 ⟨a0, a1⟩ hq
  by_cases k6 : o.kind = 6
  · rcases hc with hc | hc | ⟨c0, c1⟩
    · exact step_same0 D h hN k6 hc m0 n0 ⟨a0, a1⟩ hq
    · exact step_same1 D h hN k6 hc m0 n0 ⟨a0, a1⟩ hq
    · exact step_sameN D h hN k6 c0 c1 m0 n0 ⟨a0, a1⟩ hq
  by_cases k7 : o.kind = 7
  · rcases hc with hc | hc | ⟨c0, c1⟩
    · exact step_taken0 D h hN k7 hc ⟨a0, a1⟩ hq
    · exact step_taken1 D h hN k7 hc ⟨a0, a1⟩ hq
    · exact step_takenN D h hN k7 c0 c1 ⟨a0, a1⟩ hq
  rcases hc with hc | hc | ⟨c0, c1⟩
  · exact step_other0 D h hN (by simp [k1]) (by simp [k2]) (by simp [k3]) (by simp [k4]) (by simp [k5]) (by simp [k6]) (by simp [k7]) (by simp [h8]) hc ⟨a0, a1⟩ hq
  · exact step_other1 D h hN (by simp [k1]) (by simp [k2]) (by simp [k3]) (by simp [k4]) (by simp [k5]) (by simp [k6]) (by simp [k7]) (by simp [h8]) hc ⟨a0, a1⟩ hq
  · exact step_otherN D h hN (by simp [k1]) (by simp [k2]) (by simp [k3]) (by simp [k4]) (by simp [k5]) (by simp [k6]) (by simp [k7]) (by simp [h8]) c0 c1 ⟨a0, a1⟩ hq

end Go.Proofs.YtmfdhcnnhlchbaaGreat
