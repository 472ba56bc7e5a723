import Derived.Test.YtmfdhcnnhlchbaaGreatC07
namespace Go.Proofs.YtmfdhcnnhlchbaaGreat
open Go.RowKit

theorem setCell_os (w : World) (a : Addr) (v : Value) : (w.setCell a v).os = w.os := rfl
theorem setCell_tape (w : World) (a : Addr) (v : Value) : (w.setCell a v).tape = w.tape := rfl
theorem setCell_output (w : World) (a : Addr) (v : Value) : (w.setCell a v).output = w.output := rfl

theorem set9l {w w5 : World} {b t : Nat} {z0 z1 z2 z3 z4 z5 z6 z7 z8 x0 x1 x2 x3 x4 x5 x6 x7 x8 : Value} (h : w.heap[b]? = some (.cells #[z0, z1, z2, z3, z4, z5, z6, z7, z8] t (0, 0))) (hw : w5 = ((((((((w.setCell ⟨b, 0, none⟩ x0).setCell ⟨b, 1, none⟩ x1).setCell ⟨b, 2, none⟩ x2).setCell ⟨b, 3, none⟩ x3).setCell ⟨b, 4, none⟩ x4).setCell ⟨b, 5, none⟩ x5).setCell ⟨b, 6, none⟩ x6).setCell ⟨b, 7, none⟩ x7).setCell ⟨b, 8, none⟩ x8) :
    w5.heap[b]? = some (.cells #[x0, x1, x2, x3, x4, x5, x6, x7, x8] t (0, 0)) ∧ (∀ k, k ≠ b → w5.heap[k]? = w.heap[k]?) ∧ w5.heap.size = w.heap.size ∧ w5.os = w.os ∧ w5.tape = w.tape ∧ w5.output = w.output := by
  refine ⟨?_, ?_, ?_, ?_, ?_, ?_⟩
  · rw [hw, setCell_same (setCell_same (setCell_same (setCell_same (setCell_same (setCell_same (setCell_same (setCell_same (setCell_same h 0 x0) 1 x1) 2 x2) 3 x3) 4 x4) 5 x5) 6 x6) 7 x7) 8 x8]
    simp
  · intro k hk
    rw [hw, setCell_other _ _ _ hk, setCell_other _ _ _ hk, setCell_other _ _ _ hk, setCell_other _ _ _ hk, setCell_other _ _ _ hk, setCell_other _ _ _ hk, setCell_other _ _ _ hk, setCell_other _ _ _ hk, setCell_other _ _ _ hk]
  · rw [hw, setCell_size, setCell_size, setCell_size, setCell_size, setCell_size, setCell_size, setCell_size, setCell_size, setCell_size]
  · rw [hw]; simp only [setCell_os]
  · rw [hw]; simp only [setCell_tape]
  · rw [hw]; simp only [setCell_output]

theorem two_new (w : World) (X Y : Obj) : ((w.alloc X).alloc Y).heap[w.heap.size]? = some X ∧ ((w.alloc X).alloc Y).heap[w.heap.size + 1]? = some Y := by
  refine ⟨(heap_alloc_old _ _ (by simp)).trans (heap_alloc_new w X), ?_⟩
  have := heap_alloc_new (w.alloc X) Y
  rw [size_alloc'] at this
  exact this

/-- What look has left of the law's world and of all pairs. -/
theorem inv_mine {Dev : Nat → (Nat → Nat) → Nat → World → Nat → Mod → Prop} {kd : Int → Prop} (D : DevSide Dev kd) {own own5 : Nat → Nat} {w w5 w6 : World} {W N n : Nat} {qs : List PairS} {ls : List Value} {a : WAt} {og : Option Nat} (h : Inv Dev own w W qs N)
    (hnl : a.nl ≤ N) (s5 : StepS (fun _ => False) own own5 w w5) (hm : MineTo own5 w5 W (qs.map fun q => (q.x, q.bm)) ls a n og w6) : StepTo Dev own w W N w6 := by
  obtain ⟨own6, al', cl', a2, c2, hW, _, _, _, s6, _⟩ := hm
  have s56 : StepS (fun l => l = 1 ∨ l = 2) own own6 w w6 := (s5.wider (fun l hl => hl.elim)).trans s6
  have n6 : ∀ l, (l = 1 ∨ l = 2) → l ≠ 0 := fun l hl => by omega
  refine ⟨own6, qs, ⟨⟨_, _, hW, by simp; omega⟩, fun q hq => (h.ok q hq).keep D s56 (fun l hl => ?_) (by omega), h.apart, by have := h.len; omega⟩, s56.wider n6⟩
  have := (h.ok q hq).2.2.2
  omega

set_option maxRecDepth 100000 in
set_option maxHeartbeats 1600000 in
theorem look_no {Dev : Nat → (Nat → Nat) → Nat → World → Nat → Mod → Prop} {kd : Int → Prop} (D : DevSide Dev kd) {own : Nat → Nat} {w : World} {W N : Nat} {qs : List PairS} {q : PairS} {c : Int} (h : Inv Dev own w W qs N) (hN : N ≤ 900000) (hq : q ∈ qs) (hc0 : c ≠ 0) (hc1 : c ≠ 1) :
    Calls Tryz.prog 23 #[.pointer (some ⟨W, 0, none⟩), .agg #[.pointer (some ⟨q.x, 0, none⟩), .pointer (some ⟨q.bm, 0, none⟩)], .int .i64 c, .bool false] w fun e w' => e = .returned (.bool true) ∧ StepTo Dev own w W N w' := by
  obtain ⟨hD, _, _, _⟩ := h.ok q hq
  obtain ⟨ls, a, hW, hnl⟩ := h.wr
  have hlook := fun (X : Obj) => D.lookNo (c := c) (D.keep hD (grown_stepS (T := fun _ => False) (World.grownBy_alloc w X none)) (by simp) (by simp)) hc0 hc1
  go_enter Tryz.func23, Tryz.ntmps23
  go_wp2_with fail
  refine (hlook _).mono ?_
  rintro e w2 ⟨rfl, g2⟩
  have hz2 : w.heap.size < w2.heap.size := by have := g2.size; simp at this; omega
  have g2' : w.grownBy w2 none := grown_trans (World.grownBy_alloc w _ none) g2 (fun k e => by cases e)
  go_wp2_with fail
  refine (same_nil).mono ?_
  rintro e w3 ⟨rfl, rfl⟩
  have hWk : ∀ (X Y : Obj), WRep (relab own w) ((w2.alloc X).alloc Y) W (qs.map fun q => (q.x, q.bm)) ls a := fun X Y => hW.keepS ((relab_step (fun _ => False) own w).trans (grown_stepS (grown_alloc (grown_alloc g2' X) Y))) (by simp)
  go_wp2_with fail
  refine (mine_nil (hWk _ _) (by omega)).mono ?_
  rintro e w6 ⟨rfl, hm⟩
  have D6 := inv_mine D h hnl ((relab_step (fun _ => False) own w).trans (grown_stepS (grown_alloc (grown_alloc g2' _) _))) hm
  obtain ⟨own6, al', cl', a2, c2, _, _, _, _, _, kk⟩ := hm
  have hA := (kk w2.heap.size (by simp; omega) (by rw [relab_new (by omega)]; decide) (by simp)).trans (two_new _ _ _).1
  have hB := (kk (w2.heap.size + 1) (by simp) (by rw [relab_new (by omega)]; decide) (by simp)).trans (two_new _ _ _).2
  obtain ⟨q0, q1, q2, q3, q4, q5, q6, q7, q8, qf⟩ := blk9' hA
  obtain ⟨r0, r1, r2, r3, r4, r5, r6, r7, r8, rf⟩ := blk9' hB
  clear kk hA hB hlook hWk
  go_wp2_with fail
  go_ret
  exact ⟨rfl, D6⟩

end Go.Proofs.YtmfdhcnnhlchbaaGreat

namespace Go.Proofs.YtmfdhcnnhlchbaaGreat
open Go.RowKit

set_option maxRecDepth 100000 in
set_option maxHeartbeats 1600000 in
theorem look_is0 {Dev : Nat → (Nat → Nat) → Nat → World → Nat → Mod → Prop} {kd : Int → Prop} (D : DevSide Dev kd) {own : Nat → Nat} {w : World} {W N : Nat} {qs : List PairS} {q : PairS} (h : Inv Dev own w W qs N) (hN : N ≤ 900000) (hq : q ∈ qs) :
    Calls Tryz.prog 23 #[.pointer (some ⟨W, 0, none⟩), .agg #[.pointer (some ⟨q.x, 0, none⟩), .pointer (some ⟨q.bm, 0, none⟩)], .int .i64 0, .bool true] w fun e w' => e = .returned (.bool true) ∧ StepTo Dev own w W N w' := by
  obtain ⟨hD, ⟨b0, b1, a0, a1, hM⟩, hL, ho3⟩ := h.ok q hq
  obtain ⟨ls, a, hW, hnl⟩ := h.wr
  have hl := hL.l0
  have hlp := hl.p
  have hlk : q.m.c0.known ≤ 1048576 := by have := hl.k; have := hL.l1.h; omega
  have stX : ∀ (X : Obj), StepS (fun _ => False) own (relab own w) w (w.alloc X) := fun X => (relab_step _ own w).trans (grown_stepS (World.grownBy_alloc w X none))
  have hlook := fun (X : Obj) => D.look (c := 0) (D.keep hD (stX X) (by simp) (by simp)) (by omega) hL (by omega) (by omega)
  rw [show chainOf q.m 0 = q.m.c0 from rfl] at hlook
  go_enter Tryz.func23, Tryz.ntmps23
  go_wp2_with fail
  refine (hlook _).mono ?_
  rintro e w2 ⟨al, cl, own2, rfl, row2, hnone, lab2, new2, s2⟩
  have s02 := (stX _).trans s2
  have hz2 : w.heap.size < w2.heap.size := by have := s2.size; simp at this; omega
  have hP2 := (s2.block w.heap.size (by simp) (by simp)).trans (heap_alloc_new w _)
  have hM2 := hM.keepS s02 (by simp) (by simp) (by simp) (by simp)
  obtain ⟨p0, p1, pf⟩ := blk2 hP2
  obtain ⟨m0, m1, m2, mf⟩ := blk3 hM2.blk
  have hbm := blk_lt hM2.blk
  have hS2 : RefCh own2 (q.o + 1) w2 b0 q.m.c0 a0 := hM2.c0
  have hrl := fun (X Y : Obj) => rlook (ref_same hS2 (grown_alloc (World.grownBy_alloc w2 X none) Y)).1 (by omega) hlk
  clear hlook m2 mf pf
  go_wp2_with fail
  refine (hrl _ _).mono ?_
  rintro e w4 ⟨al', cl', rfl, row4, g4⟩
  have hA4 := (g4.block w2.heap.size (by simp; omega) (by simp)).trans (two_new w2 _ _).1
  have hB4 := (g4.block (w2.heap.size + 1) (by simp) (by simp)).trans (two_new w2 _ _).2
  obtain ⟨q0, q1, q2, q3, q4, q5, q6, q7, q8, qf⟩ := blk9' hA4
  obtain ⟨r0, r1, r2, r3, r4, r5, r6, r7, r8, rf⟩ := blk9' hB4
  clear hrl p0 p1 m0 m1
  go_wp2_with fail
  obtain ⟨w5, hw5⟩ : ∃ w5 : World, w5 = (((((((((w4.setCell ⟨w2.heap.size + 1, 0, none⟩ (.int .u64 q.m.c0.hd.height)).setCell ⟨w2.heap.size + 1, 1, none⟩ (.int .u64 q.m.c0.hd.time)).setCell ⟨w2.heap.size + 1, 2, none⟩ (.int .u64 q.m.c0.known)).setCell ⟨w2.heap.size + 1, 3, none⟩ (.bool q.m.c0.hd.isOpen)).setCell ⟨w2.heap.size + 1, 4, none⟩ (.int .u64 q.m.c0.nextSend)).setCell ⟨w2.heap.size + 1, 5, none⟩ (.int .u64 q.m.c0.hd.nextRecv)).setCell ⟨w2.heap.size + 1, 6, none⟩ (.slice al' q.m.c0.hd.packets.length cl')).setCell ⟨w2.heap.size + 1, 7, none⟩ (.int .u64 q.m.c0.locked)).setCell ⟨w2.heap.size + 1, 8, none⟩ (.int .u64 q.m.c0.about)) := ⟨_, rfl⟩
  rw [← hw5]
  obtain ⟨hB5, far5, sz5, e1, e2, e3⟩ := set9l hB4 hw5
  clear hw5
  have g25 : w2.grownBy w5 none := by
    have g24 : w2.grownBy w4 none := grown_trans (grown_alloc (World.grownBy_alloc w2 _ none) _) g4 (fun k e => by cases e)
    exact ⟨e1.trans g24.os, e2.trans g24.tape, e3.trans g24.output, by rw [sz5]; exact g24.size, fun k hk hne => (far5 k (by omega)).trans (g24.block k hk hne)⟩
  have hA5 := (far5 w2.heap.size (by omega)).trans hA4
  have r25 : w5.ownsRow 0 tU64 1 (.slice al q.m.c0.hd.packets.length cl) q.m.c0.hd.packets.length (q.m.c0.hd.packets.map fun p => .int .u64 p.seq) := owns_keep row2 fun k e => g25.block k (owns_lt row2 e) (by simp)
  have r45 : w5.ownsRow 0 tU64 1 (.slice al' q.m.c0.hd.packets.length cl') q.m.c0.hd.packets.length (q.m.c0.hd.packets.map fun p => .int .u64 p.seq) := owns_keep row4 fun k e => far5 k (fun e1 => owns_ne hB4 row4 (by decide) (by rw [e, e1]))
  have em : (q.m.c0.hd.packets.map fun p => Value.int .u64 p.seq) = (q.m.c0.hd.packets.map fun p => p.seq).map (Value.int .u64) := by simp
  refine (same_eq (by rw [← em]; exact r25) (by rw [← em]; exact r45) (by omega)).mono ?_
  rintro e w6 ⟨rfl, g6⟩
  have g26 : w2.grownBy w6 none := grown_trans g25 g6 (fun k e => by cases e)
  have hz5 : w2.heap.size + 1 < w5.heap.size := blk_lt hB5
  have hA6 := (g6.block w2.heap.size (by omega) (by simp)).trans hA5
  have hB6 := (g6.block (w2.heap.size + 1) hz5 (by simp)).trans hB5
  have row6 : w6.ownsRow 0 tU64 1 (.slice al q.m.c0.hd.packets.length cl) q.m.c0.hd.packets.length (q.m.c0.hd.packets.map fun p => .int .u64 p.seq) := owns_keep row2 fun k e => g26.block k (owns_lt row2 e) (by simp)
  have s06 : StepS (fun _ => False) own (relab own2 w2) w w6 := s02.trans ((relab_step _ own2 w2).trans (grown_stepS g26))
  have hW6 : WRep (relab own2 w2) w6 W (qs.map fun q => (q.x, q.bm)) ls a := hW.keepS s06 (by simp)
  have hz6 : w2.heap.size + 1 < w6.heap.size := by have := g6.size; omega
  obtain ⟨og, hog, hmine⟩ : ∃ og : Option Nat, (∀ k, og = some k → k < w2.heap.size) ∧ Calls Tryz.prog 40 #[.pointer (some ⟨W, 0, none⟩), .slice al q.m.c0.hd.packets.length cl] w6 fun e w' => e = .returned (.tuple #[]) ∧ MineTo (relab own2 w2) w6 W (qs.map fun q => (q.x, q.bm)) ls a q.m.c0.hd.packets.length og w' := by
    rcases row6.2 with ⟨f1, f2⟩ | ⟨g, cap, cur, f1, _⟩
    · refine ⟨none, fun k e => (by cases e), ?_⟩
      rw [f1, f2]
      exact mine_nil hW6 (by omega)
    · have hg : (Value.slice al q.m.c0.hd.packets.length cl).ownBlock = some g := by rw [f1]; rfl
      refine ⟨some g, fun k e => by simp at e; rw [← e]; exact owns_lt row2 hg, ?_⟩
      rw [f1] at row6 ⊢
      exact mine_some hW6 row6 (by rw [relab_old (owns_lt row2 hg)]; exact lab2 g hg) (by omega) (by omega)
  clear q0 q1 q2 q3 q4 q5 q6 q7 q8 qf r0 r1 r2 r3 r4 r5 r6 r7 r8 rf
  obtain ⟨q0, q1, q2, q3, q4, q5, q6, q7, q8, qf⟩ := blk9' hA6
  obtain ⟨r0, r1, r2, r3, r4, r5, r6, r7, r8, rf⟩ := blk9' hB6
  go_wp2_with fail
  refine hmine.mono ?_
  rintro e w7 ⟨rfl, hm⟩
  have D7 := inv_mine D h hnl s06 hm
  obtain ⟨own7, al7, cl7, a7, c7, _, _, _, _, _, kk⟩ := hm
  have hA7 := (kk w2.heap.size (by omega) (by rw [relab_new (Nat.le_refl _)]; decide) (fun e => by have := hog _ e.symm; omega)).trans hA6
  have hB7 := (kk (w2.heap.size + 1) (by omega) (by rw [relab_new (by omega)]; decide) (fun e => by have := hog _ e.symm; omega)).trans hB6
  clear q0 q1 q2 q3 q4 q5 q6 q7 q8 qf r0 r1 r2 r3 r4 r5 r6 r7 r8 rf kk hmine
  obtain ⟨q0, q1, q2, q3, q4, q5, q6, q7, q8, qf⟩ := blk9' hA7
  obtain ⟨r0, r1, r2, r3, r4, r5, r6, r7, r8, rf⟩ := blk9' hB7
  go_wp2_with fail
  go_ret
  exact ⟨rfl, D7⟩

end Go.Proofs.YtmfdhcnnhlchbaaGreat

namespace Go.Proofs.YtmfdhcnnhlchbaaGreat
open Go.RowKit

set_option maxRecDepth 100000 in
set_option maxHeartbeats 1600000 in
theorem step_look0 {Dev : Nat → (Nat → Nat) → Nat → World → Nat → Mod → Prop} {kd : Int → Prop} (D : DevSide Dev kd) {own : Nat → Nat} {w : World} {W N : Nat} {qs : List PairS} {o : OpV} (h : Inv Dev own w W qs N) (hN : N ≤ 900000)
    (hk : o.kind = 3) (hoc : o.c = 0) (ha : -9223372036854775808 ≤ o.a ∧ o.a ≤ 9223372036854775807) (hq : 0 < qs.length) :
    Calls Tryz.prog 15 #[.pointer (some ⟨W, 0, none⟩), o.agg] w fun e w' => e = .returned (.bool true) ∧ StepTo Dev own w W N w' := by
  obtain ⟨ls, a, hW, hnl⟩ := h.wr
  have hil : pickV o.a qs.length < qs.length := pickV_lt o.a hq
  obtain ⟨i, hi⟩ : ∃ i, i = pickV o.a qs.length := ⟨_, rfl⟩
  have hpick := fun w => pick_is o.a qs.length w hq (by have := h.len; omega) ha
  rw [← hi] at hil hpick
  obtain ⟨q, hqi⟩ : ∃ q, qs[i]? = some q := ⟨_, List.getElem?_eq_getElem hil⟩
  obtain ⟨hD, ⟨b0, b1, a0, a1, hM⟩, hL, ho3⟩ := h.ok q (List.mem_of_getElem? hqi)
  have hps : (qs.map fun q => (q.x, q.bm))[i]? = some (q.x, q.bm) := by simp [hqi]
  have hrow := hW.bs
  obtain ⟨gb, hgb, _⟩ := owns_some' hrow (by simpa using hq)
  rw [hgb] at hrow
  obtain ⟨r0, r1⟩ := pair_cells hrow hps
  obtain ⟨y0, y1, y2, y3, yf⟩ := blk4 hW.blk
  rw [hgb] at y0
  simp only [List.length_map] at y0
  have hWl := blk_lt hW.blk
  have hgl : gb < w.heap.size := owns_lt hrow rfl
  have hq0 : ((qs.length : Int) == 0) = false := by rw [beq_eq_false_iff_ne]; omega
  have hil' : (i : Int) < (qs.length : Int) := by omega
  have HI : Hid (i = pickV o.a qs.length) := hi
  clear hi
  go_enter Tryz.func15, Tryz.ntmps15
  go_wp2_with fail
  obtain ⟨w1, hw1⟩ : ∃ w1 : World, w1 = w.alloc (.cells o.arr 33) := ⟨_, rfl⟩
  have g1 : w.grownBy w1 none := by rw [hw1]; exact World.grownBy_alloc _ _ _
  have hX1 : w1.heap[w.heap.size]? = some (.cells o.arr 33 (0, 0)) := by rw [hw1]; exact heap_alloc_new w _
  simp only [OpV.arr, hk, hoc] at hw1
  rw [← hw1]
  have hcell : ∀ b j v, b < w.heap.size → w.cell? ⟨b, j, none⟩ = some v → w1.cell? ⟨b, j, none⟩ = some v := fun b j v hb hv => (World.cell?_of_block (g1.block b hb (by simp))).trans hv
  replace r0 := hcell _ _ _ hgl r0
  replace r1 := hcell _ _ _ hgl r1
  replace y0 := hcell _ _ _ hWl y0
  obtain ⟨o0, o1, o2, o3, o4, o5, o6, o7, o8, o9, o10, o11, o12, o13, o14, o15, of⟩ := blkOp hX1
  have hz1 : w.heap.size < w1.heap.size := blk_lt hX1
  clear y1 y2 y3 yf hcell hw1
  go_region_held3 (fun w' => w'.cell? ⟨W, 0, none⟩ = some (.slice (some ⟨gb, 0, none⟩) qs.length a.cb) ∧ w'.cell? ⟨w.heap.size, 1, none⟩ = some (.int .i64 o.a) ∧ w'.cell? ⟨gb, i * 2, none⟩ = some (.pointer (some ⟨q.x, 0, none⟩)) ∧ w'.cell? ⟨gb, i * 2 + 1, none⟩ = some (.pointer (some ⟨q.bm, 0, none⟩))) (go_keep)
    (first | (go_at_call 20; refine (hpick _).mono ?_; rintro e w' ⟨rfl, rfl⟩))
  all_goals
    go_wp2_with fail
    obtain ⟨w2, hw2⟩ : ∃ w2 : World, w2 = (w1.alloc (.cells #[.pointer (some ⟨q.x, 0, none⟩), .pointer (some ⟨q.bm, 0, none⟩)] 52)).drew := ⟨_, rfl⟩
    rw [← hw2]
    have g2 : w.grownBy w2 none := by rw [hw2]; exact grown_drew (grown_alloc g1 _)
    have hX2 : w2.heap[w.heap.size]? = some (.cells o.arr 33 (0, 0)) := by rw [hw2]; exact (heap_alloc_old w1 _ hz1).trans hX1
    have hP2 : w2.heap[w1.heap.size]? = some (.cells #[.pointer (some ⟨q.x, 0, none⟩), .pointer (some ⟨q.bm, 0, none⟩)] 52 (0, 0)) := by rw [hw2]; exact heap_alloc_new w1 _
    clear hw2 o0 o1 o2 o3 o4 o5 o6 o7 o8 o9 o10 o11 o12 o13 o14 o15 of r0 r1 y0 hpick
    have st2 : ∀ T, StepS T own (relab own w) w w2 := fun T => (relab_step T own w).trans (grown_stepS g2)
    have hD2 : Dev N (relab own w) q.o w2 q.x q.m := D.keep hD (st2 (fun _ => False)) (by simp) (by simp)
    have hM2 : RefMod (relab own w) q.o w2 q.bm b0 b1 q.m a0 a1 := hM.keepS (st2 (fun _ => False)) (by simp) (by simp) (by simp) (by simp)
    have hz2 : w1.heap.size < w2.heap.size := blk_lt hP2
    have hX := blkOp hX2
    obtain ⟨o0, o1, o2, o3, o4, o5, o6, o7, o8, o9, o10, o11, o12, o13, o14, o15, of⟩ := hX
    obtain ⟨p0, p1, pf⟩ := blk2 hP2
    have h2 : Inv Dev (relab own w) w2 W qs N := h.same D (st2 (fun _ => False)) (fun l hl => hl.elim) (Nat.le_refl _)
    rw [hoc] at o2
    go_wp2_with fail
    refine (look_is0 D h2 hN (List.mem_of_getElem? hqi)).mono ?_
    rintro e w3 ⟨rfl, own3, qs3, hI3, s3⟩
    go_wp2_with fail
    go_ret
    exact ⟨rfl, own3, qs3, hI3, (st2 _).trans s3⟩

end Go.Proofs.YtmfdhcnnhlchbaaGreat

namespace Go.Proofs.YtmfdhcnnhlchbaaGreat
open Go.RowKit

set_option maxRecDepth 100000 in
set_option maxHeartbeats 1600000 in
theorem look_is1 {Dev : Nat → (Nat → Nat) → Nat → World → Nat → Mod → Prop} {kd : Int → Prop} (D : DevSide Dev kd) {own : Nat → Nat} {w : World} {W N : Nat} {qs : List PairS} {q : PairS} (h : Inv Dev own w W qs N) (hN : N ≤ 900000) (hq : q ∈ qs) :
    Calls Tryz.prog 23 #[.pointer (some ⟨W, 0, none⟩), .agg #[.pointer (some ⟨q.x, 0, none⟩), .pointer (some ⟨q.bm, 0, none⟩)], .int .i64 1, .bool true] w fun e w' => e = .returned (.bool true) ∧ StepTo Dev own w W N w' := by
  obtain ⟨hD, ⟨b0, b1, a0, a1, hM⟩, hL, ho3⟩ := h.ok q hq
  obtain ⟨ls, a, hW, hnl⟩ := h.wr
  have hl := hL.l1
  have hlp := hl.p
  have hlk : q.m.c1.known ≤ 1048576 := by have := hl.k; have := hL.l0.h; omega
  have stX : ∀ (X : Obj), StepS (fun _ => False) own (relab own w) w (w.alloc X) := fun X => (relab_step _ own w).trans (grown_stepS (World.grownBy_alloc w X none))
  have hlook := fun (X : Obj) => D.look (c := 1) (D.keep hD (stX X) (by simp) (by simp)) (by omega) hL (by omega) (by omega)
  rw [show chainOf q.m 1 = q.m.c1 from rfl] at hlook
  go_enter Tryz.func23, Tryz.ntmps23
  go_wp2_with fail
  refine (hlook _).mono ?_
  rintro e w2 ⟨al, cl, own2, rfl, row2, hnone, lab2, new2, s2⟩
  have s02 := (stX _).trans s2
  have hz2 : w.heap.size < w2.heap.size := by have := s2.size; simp at this; omega
  have hP2 := (s2.block w.heap.size (by simp) (by simp)).trans (heap_alloc_new w _)
  have hM2 := hM.keepS s02 (by simp) (by simp) (by simp) (by simp)
  obtain ⟨p0, p1, pf⟩ := blk2 hP2
  obtain ⟨m0, m1, m2, mf⟩ := blk3 hM2.blk
  have hbm := blk_lt hM2.blk
  have hS2 : RefCh own2 (q.o + 2) w2 b1 q.m.c1 a1 := hM2.c1
  have hrl := fun (X Y : Obj) => rlook (ref_same hS2 (grown_alloc (World.grownBy_alloc w2 X none) Y)).1 (by omega) hlk
  clear hlook m2 mf pf
  go_wp2_with fail
  refine (hrl _ _).mono ?_
  rintro e w4 ⟨al', cl', rfl, row4, g4⟩
  have hA4 := (g4.block w2.heap.size (by simp; omega) (by simp)).trans (two_new w2 _ _).1
  have hB4 := (g4.block (w2.heap.size + 1) (by simp) (by simp)).trans (two_new w2 _ _).2
  obtain ⟨q0, q1, q2, q3, q4, q5, q6, q7, q8, qf⟩ := blk9' hA4
  obtain ⟨r0, r1, r2, r3, r4, r5, r6, r7, r8, rf⟩ := blk9' hB4
  clear hrl p0 p1 m0 m1
  go_wp2_with fail
  obtain ⟨w5, hw5⟩ : ∃ w5 : World, w5 = (((((((((w4.setCell ⟨w2.heap.size + 1, 0, none⟩ (.int .u64 q.m.c1.hd.height)).setCell ⟨w2.heap.size + 1, 1, none⟩ (.int .u64 q.m.c1.hd.time)).setCell ⟨w2.heap.size + 1, 2, none⟩ (.int .u64 q.m.c1.known)).setCell ⟨w2.heap.size + 1, 3, none⟩ (.bool q.m.c1.hd.isOpen)).setCell ⟨w2.heap.size + 1, 4, none⟩ (.int .u64 q.m.c1.nextSend)).setCell ⟨w2.heap.size + 1, 5, none⟩ (.int .u64 q.m.c1.hd.nextRecv)).setCell ⟨w2.heap.size + 1, 6, none⟩ (.slice al' q.m.c1.hd.packets.length cl')).setCell ⟨w2.heap.size + 1, 7, none⟩ (.int .u64 q.m.c1.locked)).setCell ⟨w2.heap.size + 1, 8, none⟩ (.int .u64 q.m.c1.about)) := ⟨_, rfl⟩
  rw [← hw5]
  obtain ⟨hB5, far5, sz5, e1, e2, e3⟩ := set9l hB4 hw5
  clear hw5
  have g25 : w2.grownBy w5 none := by
    have g24 : w2.grownBy w4 none := grown_trans (grown_alloc (World.grownBy_alloc w2 _ none) _) g4 (fun k e => by cases e)
    exact ⟨e1.trans g24.os, e2.trans g24.tape, e3.trans g24.output, by rw [sz5]; exact g24.size, fun k hk hne => (far5 k (by omega)).trans (g24.block k hk hne)⟩
  have hA5 := (far5 w2.heap.size (by omega)).trans hA4
  have r25 : w5.ownsRow 0 tU64 1 (.slice al q.m.c1.hd.packets.length cl) q.m.c1.hd.packets.length (q.m.c1.hd.packets.map fun p => .int .u64 p.seq) := owns_keep row2 fun k e => g25.block k (owns_lt row2 e) (by simp)
  have r45 : w5.ownsRow 0 tU64 1 (.slice al' q.m.c1.hd.packets.length cl') q.m.c1.hd.packets.length (q.m.c1.hd.packets.map fun p => .int .u64 p.seq) := owns_keep row4 fun k e => far5 k (fun e1 => owns_ne hB4 row4 (by decide) (by rw [e, e1]))
  have em : (q.m.c1.hd.packets.map fun p => Value.int .u64 p.seq) = (q.m.c1.hd.packets.map fun p => p.seq).map (Value.int .u64) := by simp
  refine (same_eq (by rw [← em]; exact r25) (by rw [← em]; exact r45) (by omega)).mono ?_
  rintro e w6 ⟨rfl, g6⟩
  have g26 : w2.grownBy w6 none := grown_trans g25 g6 (fun k e => by cases e)
  have hz5 : w2.heap.size + 1 < w5.heap.size := blk_lt hB5
  have hA6 := (g6.block w2.heap.size (by omega) (by simp)).trans hA5
  have hB6 := (g6.block (w2.heap.size + 1) hz5 (by simp)).trans hB5
  have row6 : w6.ownsRow 0 tU64 1 (.slice al q.m.c1.hd.packets.length cl) q.m.c1.hd.packets.length (q.m.c1.hd.packets.map fun p => .int .u64 p.seq) := owns_keep row2 fun k e => g26.block k (owns_lt row2 e) (by simp)
  have s06 : StepS (fun _ => False) own (relab own2 w2) w w6 := s02.trans ((relab_step _ own2 w2).trans (grown_stepS g26))
  have hW6 : WRep (relab own2 w2) w6 W (qs.map fun q => (q.x, q.bm)) ls a := hW.keepS s06 (by simp)
  have hz6 : w2.heap.size + 1 < w6.heap.size := by have := g6.size; omega
  obtain ⟨og, hog, hmine⟩ : ∃ og : Option Nat, (∀ k, og = some k → k < w2.heap.size) ∧ Calls Tryz.prog 40 #[.pointer (some ⟨W, 0, none⟩), .slice al q.m.c1.hd.packets.length cl] w6 fun e w' => e = .returned (.tuple #[]) ∧ MineTo (relab own2 w2) w6 W (qs.map fun q => (q.x, q.bm)) ls a q.m.c1.hd.packets.length og w' := by
    rcases row6.2 with ⟨f1, f2⟩ | ⟨g, cap, cur, f1, _⟩
    · refine ⟨none, fun k e => (by cases e), ?_⟩
      rw [f1, f2]
      exact mine_nil hW6 (by omega)
    · have hg : (Value.slice al q.m.c1.hd.packets.length cl).ownBlock = some g := by rw [f1]; rfl
      refine ⟨some g, fun k e => by simp at e; rw [← e]; exact owns_lt row2 hg, ?_⟩
      rw [f1] at row6 ⊢
      exact mine_some hW6 row6 (by rw [relab_old (owns_lt row2 hg)]; exact lab2 g hg) (by omega) (by omega)
  clear q0 q1 q2 q3 q4 q5 q6 q7 q8 qf r0 r1 r2 r3 r4 r5 r6 r7 r8 rf
  obtain ⟨q0, q1, q2, q3, q4, q5, q6, q7, q8, qf⟩ := blk9' hA6
  obtain ⟨r0, r1, r2, r3, r4, r5, r6, r7, r8, rf⟩ := blk9' hB6
  go_wp2_with fail
  refine hmine.mono ?_
  rintro e w7 ⟨rfl, hm⟩
  have D7 := inv_mine D h hnl s06 hm
  obtain ⟨own7, al7, cl7, a7, c7, _, _, _, _, _, kk⟩ := hm
  have hA7 := (kk w2.heap.size (by omega) (by rw [relab_new (Nat.le_refl _)]; decide) (fun e => by have := hog _ e.symm; omega)).trans hA6
  have hB7 := (kk (w2.heap.size + 1) (by omega) (by rw [relab_new (by omega)]; decide) (fun e => by have := hog _ e.symm; omega)).trans hB6
  clear q0 q1 q2 q3 q4 q5 q6 q7 q8 qf r0 r1 r2 r3 r4 r5 r6 r7 r8 rf kk hmine
  obtain ⟨q0, q1, q2, q3, q4, q5, q6, q7, q8, qf⟩ := blk9' hA7
  obtain ⟨r0, r1, r2, r3, r4, r5, r6, r7, r8, rf⟩ := blk9' hB7
  go_wp2_with fail
  go_ret
  exact ⟨rfl, D7⟩

end Go.Proofs.YtmfdhcnnhlchbaaGreat

namespace Go.Proofs.YtmfdhcnnhlchbaaGreat
open Go.RowKit

set_option maxRecDepth 100000 in
set_option maxHeartbeats 1600000 in
theorem step_look1 {Dev : Nat → (Nat → Nat) → Nat → World → Nat → Mod → Prop} {kd : Int → Prop} (D : DevSide Dev kd) {own : Nat → Nat} {w : World} {W N : Nat} {qs : List PairS} {o : OpV} (h : Inv Dev own w W qs N) (hN : N ≤ 900000)
    (hk : o.kind = 3) (hoc : o.c = 1) (ha : -9223372036854775808 ≤ o.a ∧ o.a ≤ 9223372036854775807) (hq : 0 < qs.length) :
    Calls Tryz.prog 15 #[.pointer (some ⟨W, 0, none⟩), o.agg] w fun e w' => e = .returned (.bool true) ∧ StepTo Dev own w W N w' := by
  obtain ⟨ls, a, hW, hnl⟩ := h.wr
  have hil : pickV o.a qs.length < qs.length := pickV_lt o.a hq
  obtain ⟨i, hi⟩ : ∃ i, i = pickV o.a qs.length := ⟨_, rfl⟩
  have hpick := fun w => pick_is o.a qs.length w hq (by have := h.len; omega) ha
  rw [← hi] at hil hpick
  obtain ⟨q, hqi⟩ : ∃ q, qs[i]? = some q := ⟨_, List.getElem?_eq_getElem hil⟩
  obtain ⟨hD, ⟨b0, b1, a0, a1, hM⟩, hL, ho3⟩ := h.ok q (List.mem_of_getElem? hqi)
  have hps : (qs.map fun q => (q.x, q.bm))[i]? = some (q.x, q.bm) := by simp [hqi]
  have hrow := hW.bs
  obtain ⟨gb, hgb, _⟩ := owns_some' hrow (by simpa using hq)
  rw [hgb] at hrow
  obtain ⟨r0, r1⟩ := pair_cells hrow hps
  obtain ⟨y0, y1, y2, y3, yf⟩ := blk4 hW.blk
  rw [hgb] at y0
  simp only [List.length_map] at y0
  have hWl := blk_lt hW.blk
  have hgl : gb < w.heap.size := owns_lt hrow rfl
  have hq0 : ((qs.length : Int) == 0) = false := by rw [beq_eq_false_iff_ne]; omega
  have hil' : (i : Int) < (qs.length : Int) := by omega
  have HI : Hid (i = pickV o.a qs.length) := hi
  clear hi
  go_enter Tryz.func15, Tryz.ntmps15
  go_wp2_with fail
  obtain ⟨w1, hw1⟩ : ∃ w1 : World, w1 = w.alloc (.cells o.arr 33) := ⟨_, rfl⟩
  have g1 : w.grownBy w1 none := by rw [hw1]; exact World.grownBy_alloc _ _ _
  have hX1 : w1.heap[w.heap.size]? = some (.cells o.arr 33 (0, 0)) := by rw [hw1]; exact heap_alloc_new w _
  simp only [OpV.arr, hk, hoc] at hw1
  rw [← hw1]
  have hcell : ∀ b j v, b < w.heap.size → w.cell? ⟨b, j, none⟩ = some v → w1.cell? ⟨b, j, none⟩ = some v := fun b j v hb hv => (World.cell?_of_block (g1.block b hb (by simp))).trans hv
  replace r0 := hcell _ _ _ hgl r0
  replace r1 := hcell _ _ _ hgl r1
  replace y0 := hcell _ _ _ hWl y0
  obtain ⟨o0, o1, o2, o3, o4, o5, o6, o7, o8, o9, o10, o11, o12, o13, o14, o15, of⟩ := blkOp hX1
  have hz1 : w.heap.size < w1.heap.size := blk_lt hX1
  clear y1 y2 y3 yf hcell hw1
  go_region_held3 (fun w' => w'.cell? ⟨W, 0, none⟩ = some (.slice (some ⟨gb, 0, none⟩) qs.length a.cb) ∧ w'.cell? ⟨w.heap.size, 1, none⟩ = some (.int .i64 o.a) ∧ w'.cell? ⟨gb, i * 2, none⟩ = some (.pointer (some ⟨q.x, 0, none⟩)) ∧ w'.cell? ⟨gb, i * 2 + 1, none⟩ = some (.pointer (some ⟨q.bm, 0, none⟩))) (go_keep)
    (first | (go_at_call 20; refine (hpick _).mono ?_; rintro e w' ⟨rfl, rfl⟩))
  all_goals
    go_wp2_with fail
    obtain ⟨w2, hw2⟩ : ∃ w2 : World, w2 = (w1.alloc (.cells #[.pointer (some ⟨q.x, 0, none⟩), .pointer (some ⟨q.bm, 0, none⟩)] 52)).drew := ⟨_, rfl⟩
    rw [← hw2]
    have g2 : w.grownBy w2 none := by rw [hw2]; exact grown_drew (grown_alloc g1 _)
    have hX2 : w2.heap[w.heap.size]? = some (.cells o.arr 33 (0, 0)) := by rw [hw2]; exact (heap_alloc_old w1 _ hz1).trans hX1
    have hP2 : w2.heap[w1.heap.size]? = some (.cells #[.pointer (some ⟨q.x, 0, none⟩), .pointer (some ⟨q.bm, 0, none⟩)] 52 (0, 0)) := by rw [hw2]; exact heap_alloc_new w1 _
    clear hw2 o0 o1 o2 o3 o4 o5 o6 o7 o8 o9 o10 o11 o12 o13 o14 o15 of r0 r1 y0 hpick
    have st2 : ∀ T, StepS T own (relab own w) w w2 := fun T => (relab_step T own w).trans (grown_stepS g2)
    have hD2 : Dev N (relab own w) q.o w2 q.x q.m := D.keep hD (st2 (fun _ => False)) (by simp) (by simp)
    have hM2 : RefMod (relab own w) q.o w2 q.bm b0 b1 q.m a0 a1 := hM.keepS (st2 (fun _ => False)) (by simp) (by simp) (by simp) (by simp)
    have hz2 : w1.heap.size < w2.heap.size := blk_lt hP2
    have hX := blkOp hX2
    obtain ⟨o0, o1, o2, o3, o4, o5, o6, o7, o8, o9, o10, o11, o12, o13, o14, o15, of⟩ := hX
    obtain ⟨p0, p1, pf⟩ := blk2 hP2
    have h2 : Inv Dev (relab own w) w2 W qs N := h.same D (st2 (fun _ => False)) (fun l hl => hl.elim) (Nat.le_refl _)
    rw [hoc] at o2
    go_wp2_with fail
    refine (look_is1 D h2 hN (List.mem_of_getElem? hqi)).mono ?_
    rintro e w3 ⟨rfl, own3, qs3, hI3, s3⟩
    go_wp2_with fail
    go_ret
    exact ⟨rfl, own3, qs3, hI3, (st2 _).trans s3⟩

end Go.Proofs.YtmfdhcnnhlchbaaGreat

namespace Go.Proofs.YtmfdhcnnhlchbaaGreat
open Go.RowKit

set_option maxRecDepth 100000 in
set_option maxHeartbeats 1600000 in
theorem step_lookN {Dev : Nat → (Nat → Nat) → Nat → World → Nat → Mod → Prop} {kd : Int → Prop} (D : DevSide Dev kd) {own : Nat → Nat} {w : World} {W N : Nat} {qs : List PairS} {o : OpV} (h : Inv Dev own w W qs N) (hN : N ≤ 900000)
    (hk : o.kind = 3) (hc0 : (o.c == 0) = false) (hc1 : (o.c == 1) = false) (ha : -9223372036854775808 ≤ o.a ∧ o.a ≤ 9223372036854775807) (hq : 0 < qs.length) :
    Calls Tryz.prog 15 #[.pointer (some ⟨W, 0, none⟩), o.agg] w fun e w' => e = .returned (.bool true) ∧ StepTo Dev own w W N w' := by
  obtain ⟨ls, a, hW, hnl⟩ := h.wr
  have hil : pickV o.a qs.length < qs.length := pickV_lt o.a hq
  obtain ⟨i, hi⟩ : ∃ i, i = pickV o.a qs.length := ⟨_, rfl⟩
  have hpick := fun w => pick_is o.a qs.length w hq (by have := h.len; omega) ha
  rw [← hi] at hil hpick
  obtain ⟨q, hqi⟩ : ∃ q, qs[i]? = some q := ⟨_, List.getElem?_eq_getElem hil⟩
  obtain ⟨hD, ⟨b0, b1, a0, a1, hM⟩, hL, ho3⟩ := h.ok q (List.mem_of_getElem? hqi)
  have hps : (qs.map fun q => (q.x, q.bm))[i]? = some (q.x, q.bm) := by simp [hqi]
  have hrow := hW.bs
  obtain ⟨gb, hgb, _⟩ := owns_some' hrow (by simpa using hq)
  rw [hgb] at hrow
  obtain ⟨r0, r1⟩ := pair_cells hrow hps
  obtain ⟨y0, y1, y2, y3, yf⟩ := blk4 hW.blk
  rw [hgb] at y0
  simp only [List.length_map] at y0
  have hWl := blk_lt hW.blk
  have hgl : gb < w.heap.size := owns_lt hrow rfl
  have hq0 : ((qs.length : Int) == 0) = false := by rw [beq_eq_false_iff_ne]; omega
  have hil' : (i : Int) < (qs.length : Int) := by omega
  have HI : Hid (i = pickV o.a qs.length) := hi
  clear hi
  go_enter Tryz.func15, Tryz.ntmps15
  go_wp2_with fail
  obtain ⟨w1, hw1⟩ : ∃ w1 : World, w1 = w.alloc (.cells o.arr 33) := ⟨_, rfl⟩
  have g1 : w.grownBy w1 none := by rw [hw1]; exact World.grownBy_alloc _ _ _
  have hX1 : w1.heap[w.heap.size]? = some (.cells o.arr 33 (0, 0)) := by rw [hw1]; exact heap_alloc_new w _
  simp only [OpV.arr, hk] at hw1
  rw [← hw1]
  have hcell : ∀ b j v, b < w.heap.size → w.cell? ⟨b, j, none⟩ = some v → w1.cell? ⟨b, j, none⟩ = some v := fun b j v hb hv => (World.cell?_of_block (g1.block b hb (by simp))).trans hv
  replace r0 := hcell _ _ _ hgl r0
  replace r1 := hcell _ _ _ hgl r1
  replace y0 := hcell _ _ _ hWl y0
  obtain ⟨o0, o1, o2, o3, o4, o5, o6, o7, o8, o9, o10, o11, o12, o13, o14, o15, of⟩ := blkOp hX1
  have hz1 : w.heap.size < w1.heap.size := blk_lt hX1
  clear y1 y2 y3 yf hcell hw1
  go_region_held3 (fun w' => w'.cell? ⟨W, 0, none⟩ = some (.slice (some ⟨gb, 0, none⟩) qs.length a.cb) ∧ w'.cell? ⟨w.heap.size, 1, none⟩ = some (.int .i64 o.a) ∧ w'.cell? ⟨gb, i * 2, none⟩ = some (.pointer (some ⟨q.x, 0, none⟩)) ∧ w'.cell? ⟨gb, i * 2 + 1, none⟩ = some (.pointer (some ⟨q.bm, 0, none⟩))) (go_keep)
    (first | (go_at_call 20; refine (hpick _).mono ?_; rintro e w' ⟨rfl, rfl⟩))
  all_goals
    go_wp2_with fail
    obtain ⟨w2, hw2⟩ : ∃ w2 : World, w2 = (w1.alloc (.cells #[.pointer (some ⟨q.x, 0, none⟩), .pointer (some ⟨q.bm, 0, none⟩)] 52)).drew := ⟨_, rfl⟩
    rw [← hw2]
    have g2 : w.grownBy w2 none := by rw [hw2]; exact grown_drew (grown_alloc g1 _)
    have hX2 : w2.heap[w.heap.size]? = some (.cells o.arr 33 (0, 0)) := by rw [hw2]; exact (heap_alloc_old w1 _ hz1).trans hX1
    have hP2 : w2.heap[w1.heap.size]? = some (.cells #[.pointer (some ⟨q.x, 0, none⟩), .pointer (some ⟨q.bm, 0, none⟩)] 52 (0, 0)) := by rw [hw2]; exact heap_alloc_new w1 _
    clear hw2 o0 o1 o2 o3 o4 o5 o6 o7 o8 o9 o10 o11 o12 o13 o14 o15 of r0 r1 y0 hpick
    have st2 : ∀ T, StepS T own (relab own w) w w2 := fun T => (relab_step T own w).trans (grown_stepS g2)
    have hD2 : Dev N (relab own w) q.o w2 q.x q.m := D.keep hD (st2 (fun _ => False)) (by simp) (by simp)
    have hM2 : RefMod (relab own w) q.o w2 q.bm b0 b1 q.m a0 a1 := hM.keepS (st2 (fun _ => False)) (by simp) (by simp) (by simp) (by simp)
    have hz2 : w1.heap.size < w2.heap.size := blk_lt hP2
    have hX := blkOp hX2
    obtain ⟨o0, o1, o2, o3, o4, o5, o6, o7, o8, o9, o10, o11, o12, o13, o14, o15, of⟩ := hX
    obtain ⟨p0, p1, pf⟩ := blk2 hP2
    have h2 : Inv Dev (relab own w) w2 W qs N := h.same D (st2 (fun _ => False)) (fun l hl => hl.elim) (Nat.le_refl _)
    skip
    go_wp2_with fail
    refine (look_no D h2 hN (List.mem_of_getElem? hqi) (by simpa using hc0) (by simpa using hc1)).mono ?_
    rintro e w3 ⟨rfl, own3, qs3, hI3, s3⟩
    go_wp2_with fail
    go_ret
    exact ⟨rfl, own3, qs3, hI3, (st2 _).trans s3⟩

end Go.Proofs.YtmfdhcnnhlchbaaGreat
