import Derived.Test.YtmfdhcnnhlchbaaGreatC10
namespace Go.Proofs.YtmfdhcnnhlchbaaGreat
open Go.RowKit

section
variable {own : Nat → Nat} {o : Nat} {w : World} {b : Nat} {S : Ch} {a : At} {p : Pk} {K : HdV} {n : Int}

theorem ref_relab {w1 : World} (h : RefCh own o w b S a) (g : w.grownBy w1 none) : RefCh (relab own w) o w1 b S a ∧ Step own (relab own w) o w w1 :=
  ⟨h.keep (fun k hk _ => g.block k hk (by simp)) (fun _ hk => relab_old hk), ⟨g.os, g.tape, g.output, g.size, fun _ hk => relab_old hk, fun k hk _ => g.block k hk (by simp)⟩⟩

theorem ans_cells {w : World} {g n cap : Nat} {l : List (Int × Bool)} {x : Int × Bool} {i : Nat} (h : w.ownsRow 0 tAns 2 (.slice (some ⟨g, 0, none⟩) n cap) n (l.flatMap ansCells)) (hi : l[i]? = some x) :
    w.cell? ⟨g, i * 2, none⟩ = some (.int .u64 x.1) ∧ w.cell? ⟨g, i * 2 + 1, none⟩ = some (.bool x.2) := by
  have hc := h.cells (g := g) rfl
  have get : ∀ j v, (ansCells x)[j]? = some v → w.cell? ⟨g, i * 2 + j, none⟩ = some v := by
    intro j v hv
    have hj : j < 2 := by have := (List.getElem?_eq_some_iff.1 hv).1; simpa [ansCells] using this
    have := hc (i * 2 + j) v (by rw [flat_get ansCells 2 (fun _ => rfl) l i j x hi hj]; exact hv)
    rw [Addr.add_lit] at this
    simpa using this
  exact ⟨get 0 _ rfl, get 1 _ rfl⟩

/-- The first answer to the packet n lies at the place j. -/
structure AnsAt (l : List (Int × Bool)) (n : Int) (j : Nat) (x : Int × Bool) : Prop where
  here : l[j]? = some x
  is : (x.1 != n) = false
  before : ∀ i y, i < j → l[i]? = some y → (y.1 != n) = true

theorem AnsAt.find {l : List (Int × Bool)} {n : Int} {j : Nat} {x : Int × Bool} (F : AnsAt l n j x) : l.find? (fun a => a.1 == n) = some x := by
  rw [List.find?_eq_some_iff_getElem]
  obtain ⟨hk, hp⟩ := List.getElem?_eq_some_iff.1 F.here
  refine ⟨by simpa using F.is, j, hk, hp, fun i hi => ?_⟩
  have := F.before i (l[i]'(by omega)) hi (List.getElem?_eq_getElem _)
  simpa using this

theorem ans_or (l : List (Int × Bool)) (n : Int) : (∃ j x, AnsAt l n j x) ∨ (∀ y ∈ l, (y.1 != n) = true) := by
  induction l with
  | nil => exact .inr fun q hq => by simp at hq
  | cons x r ih =>
    cases hx : (x.1 != n)
    · exact .inl ⟨0, x, rfl, hx, fun j q hj => by omega⟩
    · rcases ih with ⟨k, p, F⟩ | h
      · refine .inl ⟨k + 1, p, by simpa using F.here, F.is, fun j q hj hq => ?_⟩
        cases j with
        | zero => simp at hq; subst hq; exact hx
        | succ j => exact F.before j q (by omega) (by simpa using hq)
      · refine .inr fun q hq => ?_
        rcases List.mem_cons.1 hq with rfl | hq
        · exact hx
        · exact h q hq

theorem notAns {l : List (Int × Bool)} {n : Int} (h : ∀ q ∈ l, (q.1 != n) = true) : l.find? (fun a => a.1 == n) = none := by
  rw [List.find?_eq_none]
  intro q hq
  simpa using h q hq

abbrev AckAt (own : Nat → Nat) (o : Nat) (w : World) (b : Nat) (K : HdV) (n : Int) (r : Ch × Int × Int) : Prop :=
    Calls Tryz.prog 51 #[.pointer (some ⟨b, 0, none⟩), .int .u64 n, hdrAgg K] w fun e w' => e = .returned (.int .i64 r.2.2) ∧ RefTo own o w b r.1 w'

set_option maxRecDepth 100000 in
set_option maxHeartbeats 1600000 in
theorem ack_packet (h : RefCh own o w b S a) (bp : S.hd.packets.length ≤ 1048576) (F : ∀ q ∈ S.hd.packets, (q.seq == n) = false) : AckAt own o w b K n (S, 0, 10) := by
  obtain ⟨c0, c1, c2, c3, c4, c5, c6, c7, c8, c9, c10, c11, c12, c13, c14, c15, c16, c17, hf⟩ := ch_cells h.blk
  have hbl : b < w.heap.size := blk_lt h.blk
  have hfind := fun (X : Obj) => rfind_no (n := n) F (show ownsPk (w.alloc X) (.slice a.ap S.hd.packets.length a.cp) S.hd.packets from h.pk.alloc X) bp
  clear c0 c1 c2 c3 c5 c6 c7 c8 c9 c10 c11 c12 c13 c14 c15 c16 c17
  go_enter Tryz.func51, Tryz.ntmps51
  go_wp2_with fail
  refine (hfind _).mono ?_
  rintro e w2 ⟨rfl, g2⟩
  go_wp2_with fail
  go_ret
  exact ⟨rfl, same_to h (grown_trans (World.grownBy_alloc w _ none) g2 (fun k e => by cases e))⟩

set_option maxRecDepth 100000 in
set_option maxHeartbeats 1600000 in
theorem ack_order {k : Nat} (h : RefCh own o w b S a) (bp : S.hd.packets.length ≤ 1048576) (F : FoundAt S.hd.packets n k p) (hk0 : (0 : Int) < (k : Int)) : AckAt own o w b K n (S, 0, 9) := by
  obtain ⟨c0, c1, c2, c3, c4, c5, c6, c7, c8, c9, c10, c11, c12, c13, c14, c15, c16, c17, hf⟩ := ch_cells h.blk
  have hbl : b < w.heap.size := blk_lt h.blk
  have hkl : k < S.hd.packets.length := (List.getElem?_eq_some_iff.1 F.here).1
  obtain ⟨g, hap, hcap, hmax⟩ := owns_some' h.pk (by omega)
  have hrow : w.ownsRow 0 tPk 7 (.slice (some ⟨g, 0, none⟩) S.hd.packets.length a.cp) S.hd.packets.length (S.hd.packets.flatMap Pk.cells) := by have := h.pk; simp only [ownsPk, At.vp, hap] at this; exact this
  have hgl : g < w.heap.size := owns_lt hrow rfl
  have hfind := fun (X : Obj) => rfind_yes F (show (w.alloc X).ownsRow 0 tPk 7 (.slice (some ⟨g, 0, none⟩) S.hd.packets.length a.cp) S.hd.packets.length (S.hd.packets.flatMap Pk.cells) from hrow.alloc X) bp
  rw [hap] at c4
  have HAP : Hid (a.ap = some ⟨g, 0, none⟩) := hap
  clear c0 c1 c2 c3 c5 c6 c7 c8 c9 c10 c11 c12 c13 c14 c15 c16 c17 hap
  go_enter Tryz.func51, Tryz.ntmps51
  go_wp2_with fail
  refine (hfind _).mono ?_
  rintro e w2 ⟨rfl, g2⟩
  have g02 : w.grownBy w2 none := grown_trans (World.grownBy_alloc w _ none) g2 (fun k e => by cases e)
  have hX2 := (g2.block w.heap.size (by simp) (by simp)).trans (heap_alloc_new w _)
  have hR2 := (ref_same h g02).1
  have hrow2 : w2.ownsRow 0 tPk 7 (.slice (some ⟨g, 0, none⟩) S.hd.packets.length a.cp) S.hd.packets.length (S.hd.packets.flatMap Pk.cells) := owns_keep hrow fun q e => g02.block q (owns_lt hrow e) (by simp)
  obtain ⟨x0, x1, x2, x3, x4, x5, xf⟩ := blk6 hX2
  obtain ⟨p0, p1, p2, p3, p4, p5, p6⟩ := pk_cells hrow2 F.here
  obtain ⟨d0, d1, d2, d3, d4, d5, d6, d7, d8, d9, d10, d11, d12, d13, d14, d15, d16, d17, df⟩ := ch_cells hR2.blk
  rw [HAP.out] at d4
  have hz2 := blk_lt hX2
  have hg2 : g < w2.heap.size := owns_lt hrow2 rfl
  have hkl' : (k : Int) < (S.hd.packets.length : Int) := by omega
  clear c4 hf hfind d0 d1 d2 d3 d5 d6 d7 d8 d9 d10 d11 d12 d13 d14 d15 d16 d17
  go_wp2_with fail
  go_ret
  exact ⟨rfl, same_to h g02⟩

set_option maxRecDepth 100000 in
set_option maxHeartbeats 1600000 in
theorem ack_nil {k : Nat} (h : RefCh own o w b S a) (bp : S.hd.packets.length ≤ 1048576) (F : FoundAt S.hd.packets n k p) (hk0 : ¬ (0 : Int) < (k : Int)) (hnil : K.hd.answers.length = 0) : AckAt own o w b K n (S, 0, 12) := by
  have HN : Hid (K.hd.answers.length = 0) := hnil
  unfold AckAt
  rw [show hdrAgg K = .agg #[.int .u64 K.hd.height, .int .u64 K.hd.time, .bool K.hd.isOpen, .int .u64 K.hd.nextRecv, .slice K.ap K.hd.packets.length K.cp, .slice K.aa 0 K.ca] from by rw [← hnil]]
  clear hnil
  obtain ⟨c0, c1, c2, c3, c4, c5, c6, c7, c8, c9, c10, c11, c12, c13, c14, c15, c16, c17, hf⟩ := ch_cells h.blk
  have hbl : b < w.heap.size := blk_lt h.blk
  have hkl : k < S.hd.packets.length := (List.getElem?_eq_some_iff.1 F.here).1
  obtain ⟨g, hap, hcap, hmax⟩ := owns_some' h.pk (by omega)
  have hrow : w.ownsRow 0 tPk 7 (.slice (some ⟨g, 0, none⟩) S.hd.packets.length a.cp) S.hd.packets.length (S.hd.packets.flatMap Pk.cells) := by have := h.pk; simp only [ownsPk, At.vp, hap] at this; exact this
  have hgl : g < w.heap.size := owns_lt hrow rfl
  have hfind := fun (X : Obj) => rfind_yes F (show (w.alloc X).ownsRow 0 tPk 7 (.slice (some ⟨g, 0, none⟩) S.hd.packets.length a.cp) S.hd.packets.length (S.hd.packets.flatMap Pk.cells) from hrow.alloc X) bp
  rw [hap] at c4
  have HAP : Hid (a.ap = some ⟨g, 0, none⟩) := hap
  clear c0 c1 c2 c3 c5 c6 c7 c8 c9 c10 c11 c12 c13 c14 c15 c16 c17 hap
  go_enter Tryz.func51, Tryz.ntmps51
  go_wp2_with fail
  refine (hfind _).mono ?_
  rintro e w2 ⟨rfl, g2⟩
  have g02 : w.grownBy w2 none := grown_trans (World.grownBy_alloc w _ none) g2 (fun k e => by cases e)
  have hX2 := (g2.block w.heap.size (by simp) (by simp)).trans (heap_alloc_new w _)
  have hR2 := (ref_same h g02).1
  have hrow2 : w2.ownsRow 0 tPk 7 (.slice (some ⟨g, 0, none⟩) S.hd.packets.length a.cp) S.hd.packets.length (S.hd.packets.flatMap Pk.cells) := owns_keep hrow fun q e => g02.block q (owns_lt hrow e) (by simp)
  obtain ⟨x0, x1, x2, x3, x4, x5, xf⟩ := blk6 hX2
  obtain ⟨p0, p1, p2, p3, p4, p5, p6⟩ := pk_cells hrow2 F.here
  obtain ⟨d0, d1, d2, d3, d4, d5, d6, d7, d8, d9, d10, d11, d12, d13, d14, d15, d16, d17, df⟩ := ch_cells hR2.blk
  rw [HAP.out] at d4
  have hz2 := blk_lt hX2
  have hg2 : g < w2.heap.size := owns_lt hrow2 rfl
  have hkl' : (k : Int) < (S.hd.packets.length : Int) := by omega
  clear c4 hf hfind d0 d1 d2 d3 d5 d6 d7 d8 d9 d10 d11 d12 d13 d14 d15 d16 d17
  go_wp2_with fail
  refine wp_loop_rounds 1 ?_
  rw [rounds_succ]
  go_wp2_with fail
  go_ret
  exact ⟨rfl, same_to h (grown_alloc g02 _)⟩

set_option maxRecDepth 100000 in
set_option maxHeartbeats 1600000 in
theorem ack_none {k : Nat} (h : RefCh own o w b S a) (bp : S.hd.packets.length ≤ 1048576) (F : FoundAt S.hd.packets n k p) (hk0 : ¬ (0 : Int) < (k : Int)) (hK : HdOk own w K) (ba : K.hd.answers.length ≤ 1048576) (hpos : 0 < K.hd.answers.length) (N : ∀ y ∈ K.hd.answers, (y.1 != n) = true) : AckAt own o w b K n (S, 0, 12) := by
  obtain ⟨ga, haa, _, _⟩ := owns_some' hK.2.2.1 hpos
  have HAA : Hid (K.aa = some ⟨ga, 0, none⟩) := haa
  have hrowa : w.ownsRow 0 tAns 2 (.slice (some ⟨ga, 0, none⟩) K.hd.answers.length K.ca) K.hd.answers.length (K.hd.answers.flatMap ansCells) := by have := hK.2.2.1; simp only [ownsAns, HdV.va, haa] at this; exact this
  unfold AckAt
  rw [show hdrAgg K = .agg #[.int .u64 K.hd.height, .int .u64 K.hd.time, .bool K.hd.isOpen, .int .u64 K.hd.nextRecv, .slice K.ap K.hd.packets.length K.cp, .slice (some ⟨ga, 0, none⟩) K.hd.answers.length K.ca] from by rw [← haa]]
  clear haa
  obtain ⟨c0, c1, c2, c3, c4, c5, c6, c7, c8, c9, c10, c11, c12, c13, c14, c15, c16, c17, hf⟩ := ch_cells h.blk
  have hbl : b < w.heap.size := blk_lt h.blk
  have hkl : k < S.hd.packets.length := (List.getElem?_eq_some_iff.1 F.here).1
  obtain ⟨g, hap, hcap, hmax⟩ := owns_some' h.pk (by omega)
  have hrow : w.ownsRow 0 tPk 7 (.slice (some ⟨g, 0, none⟩) S.hd.packets.length a.cp) S.hd.packets.length (S.hd.packets.flatMap Pk.cells) := by have := h.pk; simp only [ownsPk, At.vp, hap] at this; exact this
  have hgl : g < w.heap.size := owns_lt hrow rfl
  have hfind := fun (X : Obj) => rfind_yes F (show (w.alloc X).ownsRow 0 tPk 7 (.slice (some ⟨g, 0, none⟩) S.hd.packets.length a.cp) S.hd.packets.length (S.hd.packets.flatMap Pk.cells) from hrow.alloc X) bp
  rw [hap] at c4
  have HAP : Hid (a.ap = some ⟨g, 0, none⟩) := hap
  clear c0 c1 c2 c3 c5 c6 c7 c8 c9 c10 c11 c12 c13 c14 c15 c16 c17 hap
  go_enter Tryz.func51, Tryz.ntmps51
  go_wp2_with fail
  refine (hfind _).mono ?_
  rintro e w2 ⟨rfl, g2⟩
  have g02 : w.grownBy w2 none := grown_trans (World.grownBy_alloc w _ none) g2 (fun k e => by cases e)
  have hX2 := (g2.block w.heap.size (by simp) (by simp)).trans (heap_alloc_new w _)
  have hR2 := (ref_same h g02).1
  have hrow2 : w2.ownsRow 0 tPk 7 (.slice (some ⟨g, 0, none⟩) S.hd.packets.length a.cp) S.hd.packets.length (S.hd.packets.flatMap Pk.cells) := owns_keep hrow fun q e => g02.block q (owns_lt hrow e) (by simp)
  obtain ⟨x0, x1, x2, x3, x4, x5, xf⟩ := blk6 hX2
  obtain ⟨p0, p1, p2, p3, p4, p5, p6⟩ := pk_cells hrow2 F.here
  obtain ⟨d0, d1, d2, d3, d4, d5, d6, d7, d8, d9, d10, d11, d12, d13, d14, d15, d16, d17, df⟩ := ch_cells hR2.blk
  rw [HAP.out] at d4
  have hz2 := blk_lt hX2
  have hg2 : g < w2.heap.size := owns_lt hrow2 rfl
  have hkl' : (k : Int) < (S.hd.packets.length : Int) := by omega
  clear c4 hf hfind d0 d1 d2 d3 d5 d6 d7 d8 d9 d10 d11 d12 d13 d14 d15 d16 d17
  have hWa : w2.ownsRow 0 tAns 2 (.slice (some ⟨ga, 0, none⟩) K.hd.answers.length K.ca) K.hd.answers.length (K.hd.answers.flatMap ansCells) := owns_keep hrowa fun q e => g02.block q (owns_lt hrowa e) (by simp)
  have hga : ga < w2.heap.size := owns_lt hWa rfl
  go_wp2_with fail
  obtain ⟨w3, hw3⟩ : ∃ w3 : World, w3 = w2.alloc (.cells p.arr tPk) := ⟨_, rfl⟩
  rw [← hw3]
  have g23 : w2.grownBy w3 none := by rw [hw3]; exact World.grownBy_alloc _ _ _
  have g3 : w.grownBy w3 none := grown_trans g02 g23 (fun k e => by cases e)
  have hP3 : w3.heap[w2.heap.size]? = some (.cells p.arr tPk (0, 0)) := by rw [hw3]; exact heap_alloc_new w2 _
  have z3 := blk_lt hP3
  clear hw3 x0 x1 x2 x3 x4 x5 xf p0 p1 p2 p3 p4 p5 p6 d4 df
  go_loopw [33] (fun i wr => ∃ j : Nat, i = .int .i64 j ∧ j ≤ K.hd.answers.length ∧ w3.grownBy wr none) (fun i _ => K.hd.answers.length + 1 - (intOf i).toNat)
  case atStart => exact ⟨0, rfl, Nat.zero_le _, grown_refl _ _⟩
  case round =>
    obtain ⟨j, rfl, hj, gr⟩ := hrel
    have zr := gr.size
    have hWr : wr.ownsRow 0 tAns 2 (.slice (some ⟨ga, 0, none⟩) K.hd.answers.length K.ca) K.hd.answers.length (K.hd.answers.flatMap ansCells) := owns_keep hWa fun q e => (gr.block q (by have := owns_lt hWa e; omega) (by simp)).trans (g23.block q (owns_lt hWa e) (by simp))
    have hgr : ga < wr.heap.size := owns_lt hWr rfl
    by_cases hlt : j < K.hd.answers.length
    · obtain ⟨y, hy⟩ : ∃ y, K.hd.answers[j]? = some y := ⟨_, List.getElem?_eq_getElem hlt⟩
      obtain ⟨q0, q1⟩ := ans_cells hWr hy
      have hs := N y (List.mem_of_getElem? hy)
      have hjl : (j : Int) < (K.hd.answers.length : Int) := by omega
      clear hy hWr
      go_wp2_with fail
      go_roundw
      case rel => exact ⟨j + 1, by go_num, by omega, grown_alloc gr _⟩
      case measure => simp [intOf]; omega
    · go_wp2_with fail
      go_ret
      exact ⟨rfl, same_to h (grown_trans g3 gr (fun k e => by cases e))⟩

set_option maxRecDepth 100000 in
set_option maxHeartbeats 1600000 in
theorem ack_good {k : Nat} (h : RefCh own o w b S a) (bp : S.hd.packets.length ≤ 1048576) (F : FoundAt S.hd.packets n k p) (hk0 : ¬ (0 : Int) < (k : Int)) (hK : HdOk own w K) (ba : K.hd.answers.length ≤ 1048576) (ho : o ≠ 0) {j0 : Nat} {x : Int × Bool} (N : AnsAt K.hd.answers n j0 x) (hx : x.2 = true) : AckAt own o w b K n (S.gone n, 0, 0) := by
  have hj0 : j0 < K.hd.answers.length := (List.getElem?_eq_some_iff.1 N.here).1
  obtain ⟨ga, haa, _, _⟩ := owns_some' hK.2.2.1 (by omega)
  have HAA : Hid (K.aa = some ⟨ga, 0, none⟩) := haa
  have hrowa : w.ownsRow 0 tAns 2 (.slice (some ⟨ga, 0, none⟩) K.hd.answers.length K.ca) K.hd.answers.length (K.hd.answers.flatMap ansCells) := by have := hK.2.2.1; simp only [ownsAns, HdV.va, haa] at this; exact this
  unfold AckAt
  rw [show hdrAgg K = .agg #[.int .u64 K.hd.height, .int .u64 K.hd.time, .bool K.hd.isOpen, .int .u64 K.hd.nextRecv, .slice K.ap K.hd.packets.length K.cp, .slice (some ⟨ga, 0, none⟩) K.hd.answers.length K.ca] from by rw [← haa]]
  clear haa
  obtain ⟨c0, c1, c2, c3, c4, c5, c6, c7, c8, c9, c10, c11, c12, c13, c14, c15, c16, c17, hf⟩ := ch_cells h.blk
  have hbl : b < w.heap.size := blk_lt h.blk
  have hkl : k < S.hd.packets.length := (List.getElem?_eq_some_iff.1 F.here).1
  obtain ⟨g, hap, hcap, hmax⟩ := owns_some' h.pk (by omega)
  have hrow : w.ownsRow 0 tPk 7 (.slice (some ⟨g, 0, none⟩) S.hd.packets.length a.cp) S.hd.packets.length (S.hd.packets.flatMap Pk.cells) := by have := h.pk; simp only [ownsPk, At.vp, hap] at this; exact this
  have hgl : g < w.heap.size := owns_lt hrow rfl
  have hfind := fun (X : Obj) => rfind_yes F (show (w.alloc X).ownsRow 0 tPk 7 (.slice (some ⟨g, 0, none⟩) S.hd.packets.length a.cp) S.hd.packets.length (S.hd.packets.flatMap Pk.cells) from hrow.alloc X) bp
  rw [hap] at c4
  have HAP : Hid (a.ap = some ⟨g, 0, none⟩) := hap
  clear c0 c1 c2 c3 c5 c6 c7 c8 c9 c10 c11 c12 c13 c14 c15 c16 c17 hap
  go_enter Tryz.func51, Tryz.ntmps51
  go_wp2_with fail
  refine (hfind _).mono ?_
  rintro e w2 ⟨rfl, g2⟩
  have g02 : w.grownBy w2 none := grown_trans (World.grownBy_alloc w _ none) g2 (fun k e => by cases e)
  have hX2 := (g2.block w.heap.size (by simp) (by simp)).trans (heap_alloc_new w _)
  have hR2 := (ref_same h g02).1
  have hrow2 : w2.ownsRow 0 tPk 7 (.slice (some ⟨g, 0, none⟩) S.hd.packets.length a.cp) S.hd.packets.length (S.hd.packets.flatMap Pk.cells) := owns_keep hrow fun q e => g02.block q (owns_lt hrow e) (by simp)
  obtain ⟨x0, x1, x2, x3, x4, x5, xf⟩ := blk6 hX2
  obtain ⟨p0, p1, p2, p3, p4, p5, p6⟩ := pk_cells hrow2 F.here
  obtain ⟨d0, d1, d2, d3, d4, d5, d6, d7, d8, d9, d10, d11, d12, d13, d14, d15, d16, d17, df⟩ := ch_cells hR2.blk
  rw [HAP.out] at d4
  have hz2 := blk_lt hX2
  have hg2 : g < w2.heap.size := owns_lt hrow2 rfl
  have hkl' : (k : Int) < (S.hd.packets.length : Int) := by omega
  clear c4 hf hfind d0 d1 d2 d3 d5 d6 d7 d8 d9 d10 d11 d12 d13 d14 d15 d16 d17
  have hWa : w2.ownsRow 0 tAns 2 (.slice (some ⟨ga, 0, none⟩) K.hd.answers.length K.ca) K.hd.answers.length (K.hd.answers.flatMap ansCells) := owns_keep hrowa fun q e => g02.block q (owns_lt hrowa e) (by simp)
  have hga : ga < w2.heap.size := owns_lt hWa rfl
  go_wp2_with fail
  obtain ⟨w3, hw3⟩ : ∃ w3 : World, w3 = w2.alloc (.cells p.arr tPk) := ⟨_, rfl⟩
  rw [← hw3]
  have g23 : w2.grownBy w3 none := by rw [hw3]; exact World.grownBy_alloc _ _ _
  have g3 : w.grownBy w3 none := grown_trans g02 g23 (fun k e => by cases e)
  have hP3 : w3.heap[w2.heap.size]? = some (.cells p.arr tPk (0, 0)) := by rw [hw3]; exact heap_alloc_new w2 _
  have z3 := blk_lt hP3
  clear hw3 x0 x1 x2 x3 x4 x5 xf p0 p1 p2 p3 p4 p5 p6 d4 df
  go_loopw [33] (fun i wr => ∃ j : Nat, i = .int .i64 j ∧ j ≤ j0 ∧ w3.grownBy wr none) (fun i _ => j0 + 1 - (intOf i).toNat)
  case atStart => exact ⟨0, rfl, Nat.zero_le _, grown_refl _ _⟩
  case round =>
    obtain ⟨j, rfl, hj, gr⟩ := hrel
    have zr := gr.size
    have hWr : wr.ownsRow 0 tAns 2 (.slice (some ⟨ga, 0, none⟩) K.hd.answers.length K.ca) K.hd.answers.length (K.hd.answers.flatMap ansCells) := owns_keep hWa fun q e => (gr.block q (by have := owns_lt hWa e; omega) (by simp)).trans (g23.block q (owns_lt hWa e) (by simp))
    have hgr : ga < wr.heap.size := owns_lt hWr rfl
    have hjl : (j : Int) < (K.hd.answers.length : Int) := by omega
    obtain ⟨y, hy⟩ : ∃ y, K.hd.answers[j]? = some y := ⟨_, List.getElem?_eq_getElem (by omega)⟩
    obtain ⟨q0, q1⟩ := ans_cells hWr hy
    by_cases e : j = j0
    · have hyx : y = x := by have := N.here; rw [← e, hy] at this; cases this; rfl
      rw [hyx] at q0 q1
      rw [hx] at q1
      have hs := N.is
      have g0r : w.grownBy wr none := grown_trans g3 gr (fun k e => by cases e)
      have hRr := fun (X : Obj) => (ref_relab h (grown_alloc g0r X)).1
      have sR := fun (X : Obj) => (ref_relab h (grown_alloc g0r X)).2
      have hPr := (gr.block _ z3 (by simp)).trans hP3
      have HE : Hid (j = j0) := e
      have z2r : w2.heap.size < wr.heap.size := by omega
      clear e hy hWr hyx hx
      go_wp2_with fail
      refine (gone_any (hRr _) ho F bp).mono ?_
      rintro e w5 ⟨rfl, own5, a5, hR5, s5⟩
      have n2 : relab own w w2.heap.size ≠ o := by rw [relab_new (by omega)]; omega
      have nr : relab own w wr.heap.size ≠ o := by rw [relab_new (by omega)]; omega
      have hP5 := (s5.block w2.heap.size (by simp; omega) n2).trans ((heap_alloc_old wr _ z2r).trans hPr)
      have hA5 := (s5.block wr.heap.size (by simp) nr).trans (heap_alloc_new wr _)
      obtain ⟨y0, y1, y2, y3, y4, y5, y6, yf⟩ := blk7 hP5
      obtain ⟨v0, v1⟩ := blk2' hA5
      have S5 := (sR _).trans s5
      clear q0 q1 hRr sR s5
      go_wp2_with fail
      go_ret
      exact ⟨rfl, own5, a5, hR5, S5⟩
    · have hs := N.before j y (by omega) hy
      clear hy hWr
      go_wp2_with fail
      go_roundw
      case rel => exact ⟨j + 1, by go_num, by omega, grown_alloc gr _⟩
      case measure => simp [intOf]; omega

set_option maxRecDepth 100000 in
set_option maxHeartbeats 1600000 in
theorem ack_back {k : Nat} (h : RefCh own o w b S a) (bp : S.hd.packets.length ≤ 1048576) (F : FoundAt S.hd.packets n k p) (hk0 : ¬ (0 : Int) < (k : Int)) (hK : HdOk own w K) (ba : K.hd.answers.length ≤ 1048576) (ho : o ≠ 0) (hs0 : 0 ≤ p.src) (hs1 : p.src ≤ 2) (hc0 : 0 ≤ p.coin) (hc1 : p.coin ≤ 1) {j0 : Nat} {x : Int × Bool} (N : AnsAt K.hd.answers n j0 x) (hx : x.2 = false) : AckAt own o w b K n ((S.gone n).credit p.src p.coin p.amount, 0, 0) := by
  have hj0 : j0 < K.hd.answers.length := (List.getElem?_eq_some_iff.1 N.here).1
  obtain ⟨ga, haa, _, _⟩ := owns_some' hK.2.2.1 (by omega)
  have HAA : Hid (K.aa = some ⟨ga, 0, none⟩) := haa
  have hrowa : w.ownsRow 0 tAns 2 (.slice (some ⟨ga, 0, none⟩) K.hd.answers.length K.ca) K.hd.answers.length (K.hd.answers.flatMap ansCells) := by have := hK.2.2.1; simp only [ownsAns, HdV.va, haa] at this; exact this
  unfold AckAt
  rw [show hdrAgg K = .agg #[.int .u64 K.hd.height, .int .u64 K.hd.time, .bool K.hd.isOpen, .int .u64 K.hd.nextRecv, .slice K.ap K.hd.packets.length K.cp, .slice (some ⟨ga, 0, none⟩) K.hd.answers.length K.ca] from by rw [← haa]]
  clear haa
  obtain ⟨c0, c1, c2, c3, c4, c5, c6, c7, c8, c9, c10, c11, c12, c13, c14, c15, c16, c17, hf⟩ := ch_cells h.blk
  have hbl : b < w.heap.size := blk_lt h.blk
  have hkl : k < S.hd.packets.length := (List.getElem?_eq_some_iff.1 F.here).1
  obtain ⟨g, hap, hcap, hmax⟩ := owns_some' h.pk (by omega)
  have hrow : w.ownsRow 0 tPk 7 (.slice (some ⟨g, 0, none⟩) S.hd.packets.length a.cp) S.hd.packets.length (S.hd.packets.flatMap Pk.cells) := by have := h.pk; simp only [ownsPk, At.vp, hap] at this; exact this
  have hgl : g < w.heap.size := owns_lt hrow rfl
  have hfind := fun (X : Obj) => rfind_yes F (show (w.alloc X).ownsRow 0 tPk 7 (.slice (some ⟨g, 0, none⟩) S.hd.packets.length a.cp) S.hd.packets.length (S.hd.packets.flatMap Pk.cells) from hrow.alloc X) bp
  rw [hap] at c4
  have HAP : Hid (a.ap = some ⟨g, 0, none⟩) := hap
  clear c0 c1 c2 c3 c5 c6 c7 c8 c9 c10 c11 c12 c13 c14 c15 c16 c17 hap
  go_enter Tryz.func51, Tryz.ntmps51
  go_wp2_with fail
  refine (hfind _).mono ?_
  rintro e w2 ⟨rfl, g2⟩
  have g02 : w.grownBy w2 none := grown_trans (World.grownBy_alloc w _ none) g2 (fun k e => by cases e)
  have hX2 := (g2.block w.heap.size (by simp) (by simp)).trans (heap_alloc_new w _)
  have hR2 := (ref_same h g02).1
  have hrow2 : w2.ownsRow 0 tPk 7 (.slice (some ⟨g, 0, none⟩) S.hd.packets.length a.cp) S.hd.packets.length (S.hd.packets.flatMap Pk.cells) := owns_keep hrow fun q e => g02.block q (owns_lt hrow e) (by simp)
  obtain ⟨x0, x1, x2, x3, x4, x5, xf⟩ := blk6 hX2
  obtain ⟨p0, p1, p2, p3, p4, p5, p6⟩ := pk_cells hrow2 F.here
  obtain ⟨d0, d1, d2, d3, d4, d5, d6, d7, d8, d9, d10, d11, d12, d13, d14, d15, d16, d17, df⟩ := ch_cells hR2.blk
  rw [HAP.out] at d4
  have hz2 := blk_lt hX2
  have hg2 : g < w2.heap.size := owns_lt hrow2 rfl
  have hkl' : (k : Int) < (S.hd.packets.length : Int) := by omega
  clear c4 hf hfind d0 d1 d2 d3 d5 d6 d7 d8 d9 d10 d11 d12 d13 d14 d15 d16 d17
  have hWa : w2.ownsRow 0 tAns 2 (.slice (some ⟨ga, 0, none⟩) K.hd.answers.length K.ca) K.hd.answers.length (K.hd.answers.flatMap ansCells) := owns_keep hrowa fun q e => g02.block q (owns_lt hrowa e) (by simp)
  have hga : ga < w2.heap.size := owns_lt hWa rfl
  go_wp2_with fail
  obtain ⟨w3, hw3⟩ : ∃ w3 : World, w3 = w2.alloc (.cells p.arr tPk) := ⟨_, rfl⟩
  rw [← hw3]
  have g23 : w2.grownBy w3 none := by rw [hw3]; exact World.grownBy_alloc _ _ _
  have g3 : w.grownBy w3 none := grown_trans g02 g23 (fun k e => by cases e)
  have hP3 : w3.heap[w2.heap.size]? = some (.cells p.arr tPk (0, 0)) := by rw [hw3]; exact heap_alloc_new w2 _
  have z3 := blk_lt hP3
  clear hw3 x0 x1 x2 x3 x4 x5 xf p0 p1 p2 p3 p4 p5 p6 d4 df
  go_loopw [33] (fun i wr => ∃ j : Nat, i = .int .i64 j ∧ j ≤ j0 ∧ w3.grownBy wr none) (fun i _ => j0 + 1 - (intOf i).toNat)
  case atStart => exact ⟨0, rfl, Nat.zero_le _, grown_refl _ _⟩
  case round =>
    obtain ⟨j, rfl, hj, gr⟩ := hrel
    have zr := gr.size
    have hWr : wr.ownsRow 0 tAns 2 (.slice (some ⟨ga, 0, none⟩) K.hd.answers.length K.ca) K.hd.answers.length (K.hd.answers.flatMap ansCells) := owns_keep hWa fun q e => (gr.block q (by have := owns_lt hWa e; omega) (by simp)).trans (g23.block q (owns_lt hWa e) (by simp))
    have hgr : ga < wr.heap.size := owns_lt hWr rfl
    have hjl : (j : Int) < (K.hd.answers.length : Int) := by omega
    obtain ⟨y, hy⟩ : ∃ y, K.hd.answers[j]? = some y := ⟨_, List.getElem?_eq_getElem (by omega)⟩
    obtain ⟨q0, q1⟩ := ans_cells hWr hy
    by_cases e : j = j0
    · have hyx : y = x := by have := N.here; rw [← e, hy] at this; cases this; rfl
      rw [hyx] at q0 q1
      rw [hx] at q1
      have hs := N.is
      have g0r : w.grownBy wr none := grown_trans g3 gr (fun k e => by cases e)
      have hRr := fun (X : Obj) => (ref_relab h (grown_alloc g0r X)).1
      have sR := fun (X : Obj) => (ref_relab h (grown_alloc g0r X)).2
      have hPr := (gr.block _ z3 (by simp)).trans hP3
      have HE : Hid (j = j0) := e
      have z2r : w2.heap.size < wr.heap.size := by omega
      clear e hy hWr hyx hx
      go_wp2_with fail
      refine (gone_any (hRr _) ho F bp).mono ?_
      rintro e w5 ⟨rfl, own5, a5, hR5, s5⟩
      have n2 : relab own w w2.heap.size ≠ o := by rw [relab_new (by omega)]; omega
      have nr : relab own w wr.heap.size ≠ o := by rw [relab_new (by omega)]; omega
      have hP5 := (s5.block w2.heap.size (by simp; omega) n2).trans ((heap_alloc_old wr _ z2r).trans hPr)
      have hA5 := (s5.block wr.heap.size (by simp) nr).trans (heap_alloc_new wr _)
      obtain ⟨y0, y1, y2, y3, y4, y5, y6, yf⟩ := blk7 hP5
      obtain ⟨v0, v1⟩ := blk2' hA5
      have S5 := (sR _).trans s5
      clear q0 q1 hRr sR s5
      go_wp2_with fail
      refine (credit_any hR5 ho hs0 hs1 hc0 hc1).mono ?_
      rintro e w6 ⟨rfl, R6⟩
      go_wp2_with fail
      go_ret
      exact ⟨rfl, R6.since' S5⟩
    · have hs := N.before j y (by omega) hy
      clear hy hWr
      go_wp2_with fail
      go_roundw
      case rel => exact ⟨j + 1, by go_num, by omega, grown_alloc gr _⟩
      case measure => simp [intOf]; omega

end

end Go.Proofs.YtmfdhcnnhlchbaaGreat
