import Derived.Test.YtmfdhcnnhlchbaaGreatC11
import Derived.Test.YtmfdhcnnhlchbaaGreatC07
namespace Go.Proofs.YtmfdhcnnhlchbaaGreat
open Go.RowKit

section
variable {own : Nat → Nat} {o : Nat} {w : World} {b : Nat} {S : Ch} {a : At} {p : Pk} {K : HdV} {n : Int}

abbrev BackAt (own : Nat → Nat) (o : Nat) (w : World) (b : Nat) (K : HdV) (n : Int) (closed : Bool) (r : Ch × Int × Int) : Prop :=
    Calls Tryz.prog 52 #[.pointer (some ⟨b, 0, none⟩), .int .u64 n, hdrAgg K, .bool closed] w fun e w' => e = .returned (.int .i64 r.2.2) ∧ RefTo own o w b r.1 w'

abbrev Ch.ended (S : Ch) : Ch := { S with hd := { S.hd with isOpen := false } }

theorem ended_to {own6 : Nat → Nat} {w6 : World} {S6 : Ch} {a6 : At} (h6 : RefCh own6 o w6 b S6 a6) (ho : o ≠ 0) (s : Step own own6 o w w6) : RefTo own o w b S6.ended (w6.setCell ⟨b, 2, none⟩ (.bool false)) := by
  obtain ⟨h7, s7⟩ := cell_ref (S' := S6.ended) h6 (grown_set (grown_refl w6 _) ⟨b, 2, none⟩ (.bool false) (.inl rfl)) (by rw [setCell_same h6.blk]; rfl) ho rfl rfl rfl
  exact ⟨own6, a6, h7, s.trans s7⟩

set_option maxRecDepth 100000 in
set_option maxHeartbeats 1600000 in
theorem back_packet {closed : Bool} (h : RefCh own o w b S a) (bp : S.hd.packets.length ≤ 1048576) (F : ∀ q ∈ S.hd.packets, (q.seq == n) = false) : BackAt own o w b K n closed (S, 0, 10) := by
  obtain ⟨c0, c1, c2, c3, c4, c5, c6, c7, c8, c9, c10, c11, c12, c13, c14, c15, c16, c17, hf⟩ := ch_cells h.blk
  have hbl : b < w.heap.size := blk_lt h.blk
  have hfind := fun (X : Obj) => rfind_no (n := n) F (show ownsPk (w.alloc X) (.slice a.ap S.hd.packets.length a.cp) S.hd.packets from h.pk.alloc X) bp
  clear c0 c1 c2 c3 c5 c6 c7 c8 c9 c10 c11 c12 c13 c14 c15 c16 c17
  go_enter Tryz.func52, Tryz.ntmps52
  go_wp2_with fail
  refine (hfind _).mono ?_
  rintro e w2 ⟨rfl, g2⟩
  go_wp2_with fail
  go_ret
  exact ⟨rfl, same_to h (grown_trans (World.grownBy_alloc w _ none) g2 (fun k e => by cases e))⟩

set_option maxRecDepth 100000 in
set_option maxHeartbeats 1600000 in
theorem back_open {k : Nat} (h : RefCh own o w b S a) (bp : S.hd.packets.length ≤ 1048576) (F : FoundAt S.hd.packets n k p) (hop : K.hd.isOpen = true) : BackAt own o w b K n true (S, 0, 14) := by
  obtain ⟨c0, c1, c2, c3, c4, c5, c6, c7, c8, c9, c10, c11, c12, c13, c14, c15, c16, c17, hf⟩ := ch_cells h.blk
  have hbl : b < w.heap.size := blk_lt h.blk
  have hkl : k < S.hd.packets.length := (List.getElem?_eq_some_iff.1 F.here).1
  obtain ⟨g, hap, hcap, hmax⟩ := owns_some' h.pk (by omega)
  have hrow : w.ownsRow 0 tPk 7 (.slice (some ⟨g, 0, none⟩) S.hd.packets.length a.cp) S.hd.packets.length (S.hd.packets.flatMap Pk.cells) := by have := h.pk; simp only [ownsPk, At.vp, hap] at this; exact this
  have hgl : g < w.heap.size := owns_lt hrow rfl
  have hfind := fun (X : Obj) => rfind_yes F (show (w.alloc X).ownsRow 0 tPk 7 (.slice (some ⟨g, 0, none⟩) S.hd.packets.length a.cp) S.hd.packets.length (S.hd.packets.flatMap Pk.cells) from hrow.alloc X) bp
  rw [hap] at c4
  have HAP : Hid (a.ap = some ⟨g, 0, none⟩) := hap
  clear c0 c1 c2 c3 c5 c6 c7 c8 c9 c10 c11 c12 c13 c14 c15 c16 c17 hap
  go_enter Tryz.func52, Tryz.ntmps52
  go_wp2_with fail
  refine (hfind _).mono ?_
  rintro e w2 ⟨rfl, g2⟩
  have g02 : w.grownBy w2 none := grown_trans (World.grownBy_alloc w _ none) g2 (fun k e => by cases e)
  have hX2 := (g2.block w.heap.size (by simp) (by simp)).trans (heap_alloc_new w _)
  have hR2 := (ref_same h g02).1
  have hrow2 : w2.ownsRow 0 tPk 7 (.slice (some ⟨g, 0, none⟩) S.hd.packets.length a.cp) S.hd.packets.length (S.hd.packets.flatMap Pk.cells) := owns_keep hrow fun q e => g02.block q (owns_lt hrow e) (by simp)
  obtain ⟨x0, x1, x2, x3, x4, x5, xf⟩ := blk6 hX2
  obtain ⟨p0, p1, p2, p3, p4, p5, p6⟩ := pk_cells hrow2 F.here
  obtain ⟨d0, d1, d2, d3, d4, d5, d6, d7, d8, d9, d10, d11, d12, d13, d14, d15, d16, d17, df⟩ := ch_cells hR2.blk
  rw [HAP.out] at d4
  have hz2 := blk_lt hX2
  have hg2 : g < w2.heap.size := owns_lt hrow2 rfl
  have hkl' : (k : Int) < (S.hd.packets.length : Int) := by omega
  clear c4 hf hfind d0 d1 d2 d3 d5 d6 d7 d8 d9 d10 d11 d12 d13 d14 d15 d16 d17
  have hP := fun (W : World) => heap_alloc_new W (.cells p.arr tPk)
  clear hP
  go_wp2_with fail
  go_ret
  exact ⟨rfl, same_to h (grown_alloc g02 _)⟩

set_option maxRecDepth 100000 in
set_option maxHeartbeats 1600000 in
theorem back_early1 {k : Nat} (h : RefCh own o w b S a) (bp : S.hd.packets.length ≤ 1048576) (F : FoundAt S.hd.packets n k p) (hop : K.hd.isOpen = false) (hr : n < K.hd.nextRecv) : BackAt own o w b K n true (S, 0, 13) := by
  obtain ⟨c0, c1, c2, c3, c4, c5, c6, c7, c8, c9, c10, c11, c12, c13, c14, c15, c16, c17, hf⟩ := ch_cells h.blk
  have hbl : b < w.heap.size := blk_lt h.blk
  have hkl : k < S.hd.packets.length := (List.getElem?_eq_some_iff.1 F.here).1
  obtain ⟨g, hap, hcap, hmax⟩ := owns_some' h.pk (by omega)
  have hrow : w.ownsRow 0 tPk 7 (.slice (some ⟨g, 0, none⟩) S.hd.packets.length a.cp) S.hd.packets.length (S.hd.packets.flatMap Pk.cells) := by have := h.pk; simp only [ownsPk, At.vp, hap] at this; exact this
  have hgl : g < w.heap.size := owns_lt hrow rfl
  have hfind := fun (X : Obj) => rfind_yes F (show (w.alloc X).ownsRow 0 tPk 7 (.slice (some ⟨g, 0, none⟩) S.hd.packets.length a.cp) S.hd.packets.length (S.hd.packets.flatMap Pk.cells) from hrow.alloc X) bp
  rw [hap] at c4
  have HAP : Hid (a.ap = some ⟨g, 0, none⟩) := hap
  clear c0 c1 c2 c3 c5 c6 c7 c8 c9 c10 c11 c12 c13 c14 c15 c16 c17 hap
  go_enter Tryz.func52, Tryz.ntmps52
  go_wp2_with fail
  refine (hfind _).mono ?_
  rintro e w2 ⟨rfl, g2⟩
  have g02 : w.grownBy w2 none := grown_trans (World.grownBy_alloc w _ none) g2 (fun k e => by cases e)
  have hX2 := (g2.block w.heap.size (by simp) (by simp)).trans (heap_alloc_new w _)
  have hR2 := (ref_same h g02).1
  have hrow2 : w2.ownsRow 0 tPk 7 (.slice (some ⟨g, 0, none⟩) S.hd.packets.length a.cp) S.hd.packets.length (S.hd.packets.flatMap Pk.cells) := owns_keep hrow fun q e => g02.block q (owns_lt hrow e) (by simp)
  obtain ⟨x0, x1, x2, x3, x4, x5, xf⟩ := blk6 hX2
  obtain ⟨p0, p1, p2, p3, p4, p5, p6⟩ := pk_cells hrow2 F.here
  obtain ⟨d0, d1, d2, d3, d4, d5, d6, d7, d8, d9, d10, d11, d12, d13, d14, d15, d16, d17, df⟩ := ch_cells hR2.blk
  rw [HAP.out] at d4
  have hz2 := blk_lt hX2
  have hg2 : g < w2.heap.size := owns_lt hrow2 rfl
  have hkl' : (k : Int) < (S.hd.packets.length : Int) := by omega
  clear c4 hf hfind d0 d1 d2 d3 d5 d6 d7 d8 d9 d10 d11 d12 d13 d14 d15 d16 d17
  have hP := fun (W : World) => heap_alloc_new W (.cells p.arr tPk)
  clear hP
  go_wp2_with fail
  go_ret
  exact ⟨rfl, same_to h (grown_alloc g02 _)⟩

set_option maxRecDepth 100000 in
set_option maxHeartbeats 1600000 in
theorem back_ok1 {k : Nat} (h : RefCh own o w b S a) (bp : S.hd.packets.length ≤ 1048576) (F : FoundAt S.hd.packets n k p) (ho : o ≠ 0) (hs0 : 0 ≤ p.src) (hs1 : p.src ≤ 2) (hc0 : 0 ≤ p.coin) (hc1 : p.coin ≤ 1) (hop : K.hd.isOpen = false) (hr : ¬ n < K.hd.nextRecv) : BackAt own o w b K n true (((S.gone n).credit p.src p.coin p.amount).ended, 0, 0) := by
  obtain ⟨c0, c1, c2, c3, c4, c5, c6, c7, c8, c9, c10, c11, c12, c13, c14, c15, c16, c17, hf⟩ := ch_cells h.blk
  have hbl : b < w.heap.size := blk_lt h.blk
  have hkl : k < S.hd.packets.length := (List.getElem?_eq_some_iff.1 F.here).1
  obtain ⟨g, hap, hcap, hmax⟩ := owns_some' h.pk (by omega)
  have hrow : w.ownsRow 0 tPk 7 (.slice (some ⟨g, 0, none⟩) S.hd.packets.length a.cp) S.hd.packets.length (S.hd.packets.flatMap Pk.cells) := by have := h.pk; simp only [ownsPk, At.vp, hap] at this; exact this
  have hgl : g < w.heap.size := owns_lt hrow rfl
  have hfind := fun (X : Obj) => rfind_yes F (show (w.alloc X).ownsRow 0 tPk 7 (.slice (some ⟨g, 0, none⟩) S.hd.packets.length a.cp) S.hd.packets.length (S.hd.packets.flatMap Pk.cells) from hrow.alloc X) bp
  rw [hap] at c4
  have HAP : Hid (a.ap = some ⟨g, 0, none⟩) := hap
  clear c0 c1 c2 c3 c5 c6 c7 c8 c9 c10 c11 c12 c13 c14 c15 c16 c17 hap
  go_enter Tryz.func52, Tryz.ntmps52
  go_wp2_with fail
  refine (hfind _).mono ?_
  rintro e w2 ⟨rfl, g2⟩
  have g02 : w.grownBy w2 none := grown_trans (World.grownBy_alloc w _ none) g2 (fun k e => by cases e)
  have hX2 := (g2.block w.heap.size (by simp) (by simp)).trans (heap_alloc_new w _)
  have hR2 := (ref_same h g02).1
  have hrow2 : w2.ownsRow 0 tPk 7 (.slice (some ⟨g, 0, none⟩) S.hd.packets.length a.cp) S.hd.packets.length (S.hd.packets.flatMap Pk.cells) := owns_keep hrow fun q e => g02.block q (owns_lt hrow e) (by simp)
  obtain ⟨x0, x1, x2, x3, x4, x5, xf⟩ := blk6 hX2
  obtain ⟨p0, p1, p2, p3, p4, p5, p6⟩ := pk_cells hrow2 F.here
  obtain ⟨d0, d1, d2, d3, d4, d5, d6, d7, d8, d9, d10, d11, d12, d13, d14, d15, d16, d17, df⟩ := ch_cells hR2.blk
  rw [HAP.out] at d4
  have hz2 := blk_lt hX2
  have hg2 : g < w2.heap.size := owns_lt hrow2 rfl
  have hkl' : (k : Int) < (S.hd.packets.length : Int) := by omega
  clear c4 hf hfind d0 d1 d2 d3 d5 d6 d7 d8 d9 d10 d11 d12 d13 d14 d15 d16 d17
  have hP := fun (W : World) => heap_alloc_new W (.cells p.arr tPk)
  have hRr := fun (X : Obj) => (ref_relab h (grown_alloc g02 X)).1
  have sR := fun (X : Obj) => (ref_relab h (grown_alloc g02 X)).2
  clear hP
  go_wp2_with fail
  refine (gone_any (hRr _) ho F bp).mono ?_
  rintro e w5 ⟨rfl, own5, a5, hR5, s5⟩
  have n2 : relab own w w2.heap.size ≠ o := by rw [relab_new (by omega)]; omega
  have hP5 := (s5.block w2.heap.size (by simp) n2).trans (heap_alloc_new w2 _)
  have S5 := (sR _).trans s5
  obtain ⟨y0, y1, y2, y3, y4, y5, y6, yf⟩ := blk7 hP5
  clear x0 x1 x2 x3 x4 x5 xf p0 p1 p2 p3 p4 p5 p6 d4 df s5
  go_wp2_with fail
  refine (credit_any hR5 ho hs0 hs1 hc0 hc1).mono ?_
  rintro e w6 ⟨rfl, own6, a6, hR6, s6⟩
  obtain ⟨d0, d1, d2, d3, d4, d5, d6, d7, d8, d9, d10, d11, d12, d13, d14, d15, d16, d17, df⟩ := ch_cells hR6.blk
  have hb6 := blk_lt hR6.blk
  clear d0 d1 d3 d4 d5 d6 d7 d8 d9 d10 d11 d12 d13 d14 d15 d16 d17 y0 y1 y2 y3 y4 y5 y6 yf
  go_wp2_with fail
  go_ret
  exact ⟨rfl, ended_to hR6 ho (S5.trans s6)⟩

set_option maxRecDepth 100000 in
set_option maxHeartbeats 1600000 in
theorem back_due {k : Nat} (h : RefCh own o w b S a) (bp : S.hd.packets.length ≤ 1048576) (F : FoundAt S.hd.packets n k p) (hd : dueB p K.hd.height K.hd.time = false) : BackAt own o w b K n false (S, 0, 13) := by
  obtain ⟨c0, c1, c2, c3, c4, c5, c6, c7, c8, c9, c10, c11, c12, c13, c14, c15, c16, c17, hf⟩ := ch_cells h.blk
  have hbl : b < w.heap.size := blk_lt h.blk
  have hkl : k < S.hd.packets.length := (List.getElem?_eq_some_iff.1 F.here).1
  obtain ⟨g, hap, hcap, hmax⟩ := owns_some' h.pk (by omega)
  have hrow : w.ownsRow 0 tPk 7 (.slice (some ⟨g, 0, none⟩) S.hd.packets.length a.cp) S.hd.packets.length (S.hd.packets.flatMap Pk.cells) := by have := h.pk; simp only [ownsPk, At.vp, hap] at this; exact this
  have hgl : g < w.heap.size := owns_lt hrow rfl
  have hfind := fun (X : Obj) => rfind_yes F (show (w.alloc X).ownsRow 0 tPk 7 (.slice (some ⟨g, 0, none⟩) S.hd.packets.length a.cp) S.hd.packets.length (S.hd.packets.flatMap Pk.cells) from hrow.alloc X) bp
  rw [hap] at c4
  have HAP : Hid (a.ap = some ⟨g, 0, none⟩) := hap
  clear c0 c1 c2 c3 c5 c6 c7 c8 c9 c10 c11 c12 c13 c14 c15 c16 c17 hap
  go_enter Tryz.func52, Tryz.ntmps52
  go_wp2_with fail
  refine (hfind _).mono ?_
  rintro e w2 ⟨rfl, g2⟩
  have g02 : w.grownBy w2 none := grown_trans (World.grownBy_alloc w _ none) g2 (fun k e => by cases e)
  have hX2 := (g2.block w.heap.size (by simp) (by simp)).trans (heap_alloc_new w _)
  have hR2 := (ref_same h g02).1
  have hrow2 : w2.ownsRow 0 tPk 7 (.slice (some ⟨g, 0, none⟩) S.hd.packets.length a.cp) S.hd.packets.length (S.hd.packets.flatMap Pk.cells) := owns_keep hrow fun q e => g02.block q (owns_lt hrow e) (by simp)
  obtain ⟨x0, x1, x2, x3, x4, x5, xf⟩ := blk6 hX2
  obtain ⟨p0, p1, p2, p3, p4, p5, p6⟩ := pk_cells hrow2 F.here
  obtain ⟨d0, d1, d2, d3, d4, d5, d6, d7, d8, d9, d10, d11, d12, d13, d14, d15, d16, d17, df⟩ := ch_cells hR2.blk
  rw [HAP.out] at d4
  have hz2 := blk_lt hX2
  have hg2 : g < w2.heap.size := owns_lt hrow2 rfl
  have hkl' : (k : Int) < (S.hd.packets.length : Int) := by omega
  clear c4 hf hfind d0 d1 d2 d3 d5 d6 d7 d8 d9 d10 d11 d12 d13 d14 d15 d16 d17
  go_wp2_with (go_at_call 70; refine (rdue_any p K.hd.height K.hd.time _).mono ?_; rintro e w4 ⟨rfl, g4⟩; have hX4 := (g4.block w.heap.size (by simp; omega) (by simp)).trans ((heap_alloc_old w2 _ hz2).trans hX2); obtain ⟨v0, v1, v2, v3, v4, v5, vf⟩ := blk6 hX4; have z4 := blk_lt hX4)
  go_ret
  exact ⟨rfl, same_to h (grown_trans (grown_alloc g02 _) g4 (fun k e => by cases e))⟩

set_option maxRecDepth 100000 in
set_option maxHeartbeats 1600000 in
theorem back_early0 {k : Nat} (h : RefCh own o w b S a) (bp : S.hd.packets.length ≤ 1048576) (F : FoundAt S.hd.packets n k p) (hd : dueB p K.hd.height K.hd.time = true) (hr : n < K.hd.nextRecv) : BackAt own o w b K n false (S, 0, 13) := by
  obtain ⟨c0, c1, c2, c3, c4, c5, c6, c7, c8, c9, c10, c11, c12, c13, c14, c15, c16, c17, hf⟩ := ch_cells h.blk
  have hbl : b < w.heap.size := blk_lt h.blk
  have hkl : k < S.hd.packets.length := (List.getElem?_eq_some_iff.1 F.here).1
  obtain ⟨g, hap, hcap, hmax⟩ := owns_some' h.pk (by omega)
  have hrow : w.ownsRow 0 tPk 7 (.slice (some ⟨g, 0, none⟩) S.hd.packets.length a.cp) S.hd.packets.length (S.hd.packets.flatMap Pk.cells) := by have := h.pk; simp only [ownsPk, At.vp, hap] at this; exact this
  have hgl : g < w.heap.size := owns_lt hrow rfl
  have hfind := fun (X : Obj) => rfind_yes F (show (w.alloc X).ownsRow 0 tPk 7 (.slice (some ⟨g, 0, none⟩) S.hd.packets.length a.cp) S.hd.packets.length (S.hd.packets.flatMap Pk.cells) from hrow.alloc X) bp
  rw [hap] at c4
  have HAP : Hid (a.ap = some ⟨g, 0, none⟩) := hap
  clear c0 c1 c2 c3 c5 c6 c7 c8 c9 c10 c11 c12 c13 c14 c15 c16 c17 hap
  go_enter Tryz.func52, Tryz.ntmps52
  go_wp2_with fail
  refine (hfind _).mono ?_
  rintro e w2 ⟨rfl, g2⟩
  have g02 : w.grownBy w2 none := grown_trans (World.grownBy_alloc w _ none) g2 (fun k e => by cases e)
  have hX2 := (g2.block w.heap.size (by simp) (by simp)).trans (heap_alloc_new w _)
  have hR2 := (ref_same h g02).1
  have hrow2 : w2.ownsRow 0 tPk 7 (.slice (some ⟨g, 0, none⟩) S.hd.packets.length a.cp) S.hd.packets.length (S.hd.packets.flatMap Pk.cells) := owns_keep hrow fun q e => g02.block q (owns_lt hrow e) (by simp)
  obtain ⟨x0, x1, x2, x3, x4, x5, xf⟩ := blk6 hX2
  obtain ⟨p0, p1, p2, p3, p4, p5, p6⟩ := pk_cells hrow2 F.here
  obtain ⟨d0, d1, d2, d3, d4, d5, d6, d7, d8, d9, d10, d11, d12, d13, d14, d15, d16, d17, df⟩ := ch_cells hR2.blk
  rw [HAP.out] at d4
  have hz2 := blk_lt hX2
  have hg2 : g < w2.heap.size := owns_lt hrow2 rfl
  have hkl' : (k : Int) < (S.hd.packets.length : Int) := by omega
  clear c4 hf hfind d0 d1 d2 d3 d5 d6 d7 d8 d9 d10 d11 d12 d13 d14 d15 d16 d17
  go_wp2_with (go_at_call 70; refine (rdue_any p K.hd.height K.hd.time _).mono ?_; rintro e w4 ⟨rfl, g4⟩; have hX4 := (g4.block w.heap.size (by simp; omega) (by simp)).trans ((heap_alloc_old w2 _ hz2).trans hX2); obtain ⟨v0, v1, v2, v3, v4, v5, vf⟩ := blk6 hX4; have z4 := blk_lt hX4)
  go_ret
  exact ⟨rfl, same_to h (grown_trans (grown_alloc g02 _) g4 (fun k e => by cases e))⟩

set_option maxRecDepth 100000 in
set_option maxHeartbeats 1600000 in
theorem back_ok0 {k : Nat} (h : RefCh own o w b S a) (bp : S.hd.packets.length ≤ 1048576) (F : FoundAt S.hd.packets n k p) (ho : o ≠ 0) (hs0 : 0 ≤ p.src) (hs1 : p.src ≤ 2) (hc0 : 0 ≤ p.coin) (hc1 : p.coin ≤ 1) (hd : dueB p K.hd.height K.hd.time = true) (hr : ¬ n < K.hd.nextRecv) : BackAt own o w b K n false (((S.gone n).credit p.src p.coin p.amount).ended, 0, 0) := by
  obtain ⟨c0, c1, c2, c3, c4, c5, c6, c7, c8, c9, c10, c11, c12, c13, c14, c15, c16, c17, hf⟩ := ch_cells h.blk
  have hbl : b < w.heap.size := blk_lt h.blk
  have hkl : k < S.hd.packets.length := (List.getElem?_eq_some_iff.1 F.here).1
  obtain ⟨g, hap, hcap, hmax⟩ := owns_some' h.pk (by omega)
  have hrow : w.ownsRow 0 tPk 7 (.slice (some ⟨g, 0, none⟩) S.hd.packets.length a.cp) S.hd.packets.length (S.hd.packets.flatMap Pk.cells) := by have := h.pk; simp only [ownsPk, At.vp, hap] at this; exact this
  have hgl : g < w.heap.size := owns_lt hrow rfl
  have hfind := fun (X : Obj) => rfind_yes F (show (w.alloc X).ownsRow 0 tPk 7 (.slice (some ⟨g, 0, none⟩) S.hd.packets.length a.cp) S.hd.packets.length (S.hd.packets.flatMap Pk.cells) from hrow.alloc X) bp
  rw [hap] at c4
  have HAP : Hid (a.ap = some ⟨g, 0, none⟩) := hap
  clear c0 c1 c2 c3 c5 c6 c7 c8 c9 c10 c11 c12 c13 c14 c15 c16 c17 hap
  go_enter Tryz.func52, Tryz.ntmps52
  go_wp2_with fail
  refine (hfind _).mono ?_
  rintro e w2 ⟨rfl, g2⟩
  have g02 : w.grownBy w2 none := grown_trans (World.grownBy_alloc w _ none) g2 (fun k e => by cases e)
  have hX2 := (g2.block w.heap.size (by simp) (by simp)).trans (heap_alloc_new w _)
  have hR2 := (ref_same h g02).1
  have hrow2 : w2.ownsRow 0 tPk 7 (.slice (some ⟨g, 0, none⟩) S.hd.packets.length a.cp) S.hd.packets.length (S.hd.packets.flatMap Pk.cells) := owns_keep hrow fun q e => g02.block q (owns_lt hrow e) (by simp)
  obtain ⟨x0, x1, x2, x3, x4, x5, xf⟩ := blk6 hX2
  obtain ⟨p0, p1, p2, p3, p4, p5, p6⟩ := pk_cells hrow2 F.here
  obtain ⟨d0, d1, d2, d3, d4, d5, d6, d7, d8, d9, d10, d11, d12, d13, d14, d15, d16, d17, df⟩ := ch_cells hR2.blk
  rw [HAP.out] at d4
  have hz2 := blk_lt hX2
  have hg2 : g < w2.heap.size := owns_lt hrow2 rfl
  have hkl' : (k : Int) < (S.hd.packets.length : Int) := by omega
  clear c4 hf hfind d0 d1 d2 d3 d5 d6 d7 d8 d9 d10 d11 d12 d13 d14 d15 d16 d17
  go_wp2_with (go_at_call 70; refine (rdue_any p K.hd.height K.hd.time _).mono ?_; rintro e w4 ⟨rfl, g4⟩; have hX4 := (g4.block w.heap.size (by simp; omega) (by simp)).trans ((heap_alloc_old w2 _ hz2).trans hX2); obtain ⟨v0, v1, v2, v3, v4, v5, vf⟩ := blk6 hX4; have z4 := blk_lt hX4)
  have g24 : w.grownBy w4 none := grown_trans (grown_alloc g02 _) g4 (fun k e => by cases e)
  have hP4 := (g4.block w2.heap.size (by simp) (by simp)).trans (heap_alloc_new w2 _)
  have zz4 := blk_lt hP4
  refine (gone_any (ref_relab h g24).1 ho F bp).mono ?_
  rintro e w5 ⟨rfl, own5, a5, hR5, s5⟩
  have n2 : relab own w w2.heap.size ≠ o := by rw [relab_new (by omega)]; omega
  have hP5 := (s5.block w2.heap.size zz4 n2).trans hP4
  have S5 := (ref_relab h g24).2.trans s5
  clear v0 v1 v2 v3 v4 v5 vf
  obtain ⟨y0, y1, y2, y3, y4, y5, y6, yf⟩ := blk7 hP5
  clear x0 x1 x2 x3 x4 x5 xf p0 p1 p2 p3 p4 p5 p6 d4 df s5
  go_wp2_with fail
  refine (credit_any hR5 ho hs0 hs1 hc0 hc1).mono ?_
  rintro e w6 ⟨rfl, own6, a6, hR6, s6⟩
  obtain ⟨d0, d1, d2, d3, d4, d5, d6, d7, d8, d9, d10, d11, d12, d13, d14, d15, d16, d17, df⟩ := ch_cells hR6.blk
  have hb6 := blk_lt hR6.blk
  clear d0 d1 d3 d4 d5 d6 d7 d8 d9 d10 d11 d12 d13 d14 d15 d16 d17 y0 y1 y2 y3 y4 y5 y6 yf
  go_wp2_with fail
  go_ret
  exact ⟨rfl, ended_to hR6 ho (S5.trans s6)⟩

end

end Go.Proofs.YtmfdhcnnhlchbaaGreat

namespace Go.Proofs.YtmfdhcnnhlchbaaGreat
open Go.RowKit

section
variable {own : Nat → Nat} {o : Nat} {w : World} {b : Nat} {S : Ch} {a : At} {p : Pk} {K : HdV} {n : Int}

theorem recv_spec (h : RefCh own o w b S a) (ho : o ≠ 0) (hK : HdOk own w K) (bK : K.hd.packets.length ≤ 1048576) (ba : S.hd.answers.length ≤ 1048576) (hv : ∀ p ∈ K.hd.packets, GoodPk p) : RecvAt own o w b K n (recvC S n K.hd) := by
  unfold recvC
  by_cases h1 : S.hd.isOpen = false
  · rw [if_pos h1]; exact recv_closed h h1
  rw [if_neg h1]
  simp only [Bool.not_eq_false] at h1
  by_cases h2 : n = S.hd.nextRecv
  · rw [if_neg (by simpa using h2)]
    have h2' : (n != S.hd.nextRecv) = false := by simpa using h2
    rcases found_or K.hd.packets n with ⟨k, p, F⟩ | F
    · rw [F.find]
      simp only
      obtain ⟨_, hc0, hc1⟩ := hv p (List.mem_of_getElem? F.here)
      cases hd : dueB p S.hd.height S.hd.time
      · rw [if_neg (by simp)]
        by_cases hg : goodTo p = true
        · have hg' : 0 ≤ p.dst ∧ p.dst ≤ 2 := by simpa [goodTo] using hg
          rw [if_pos hg, hg]
          exact recv_good h h1 h2' hK bK F ho ba hd hg'.1 hg'.2 hc0 hc1
        · have hg' : p.dst < 0 ∨ 2 < p.dst := by
            simp only [goodTo, Bool.and_eq_true, decide_eq_true_eq] at hg
            omega
          rw [if_neg hg, Bool.not_eq_true _ |>.mp hg]
          exact recv_bad h h1 h2' hK bK F ho ba hd hg'
      · rw [if_pos rfl]
        exact recv_late h h1 h2' hK bK F hd
    · rw [notFound F]
      exact recv_packet h h1 h2' hK bK F
  · rw [if_pos h2]
    exact recv_order h h1 (by simpa using h2)

theorem ack_spec (h : RefCh own o w b S a) (ho : o ≠ 0) (hK : HdOk own w K) (bp : S.hd.packets.length ≤ 1048576) (ba : K.hd.answers.length ≤ 1048576) (hv : ∀ p ∈ S.hd.packets, GoodPk p) : AckAt own o w b K n (ackC S n K.hd) := by
  unfold ackC
  rcases found_or S.hd.packets n with ⟨k, p, F⟩ | F
  · rw [F.find, F.head]
    simp only
    obtain ⟨⟨hs0, hs1⟩, hc0, hc1⟩ := hv p (List.mem_of_getElem? F.here)
    by_cases hk : k = 0
    · rw [if_neg (by simp [hk])]
      have hk0 : ¬ (0 : Int) < (k : Int) := by omega
      rcases ans_or K.hd.answers n with ⟨j, x, N⟩ | N
      · rw [N.find]
        simp only
        cases hx : x.2
        · rw [if_neg (by simp)]
          exact ack_back h bp F hk0 hK ba ho hs0 hs1 hc0 hc1 N hx
        · rw [if_pos rfl]
          exact ack_good h bp F hk0 hK ba ho N hx
      · rw [notAns N]
        by_cases hl : K.hd.answers.length = 0
        · exact ack_nil h bp F hk0 hl
        · exact ack_none h bp F hk0 hK ba (by omega) N
    · rw [if_pos (by simp [hk])]
      exact ack_order h bp F (by omega)
  · rw [notFound F]
    exact ack_packet h bp F

theorem back_spec (closed : Bool) (h : RefCh own o w b S a) (ho : o ≠ 0) (bp : S.hd.packets.length ≤ 1048576) (hv : ∀ p ∈ S.hd.packets, GoodPk p) : BackAt own o w b K n closed (backC S n K.hd closed) := by
  unfold backC
  rcases found_or S.hd.packets n with ⟨k, p, F⟩ | F
  · rw [F.find]
    simp only
    obtain ⟨⟨hs0, hs1⟩, hc0, hc1⟩ := hv p (List.mem_of_getElem? F.here)
    cases closed
    · rw [if_neg (by simp)]
      cases hd : dueB p K.hd.height K.hd.time
      · rw [if_pos (by simp)]
        exact back_due h bp F hd
      · by_cases hr : n < K.hd.nextRecv
        · rw [if_pos (by simp [hr])]
          exact back_early0 h bp F hd hr
        · rw [if_neg (by simp; omega)]
          exact back_ok0 h bp F ho hs0 hs1 hc0 hc1 hd hr
    · cases hop : K.hd.isOpen
      · rw [if_neg (by simp)]
        by_cases hr : n < K.hd.nextRecv
        · rw [if_pos (by simp [hr])]
          exact back_early1 h bp F hop hr
        · rw [if_neg (by simp; omega)]
          exact back_ok1 h bp F ho hs0 hs1 hc0 hc1 hop hr
      · rw [if_pos (by simp)]
        exact back_open h bp F hop
  · rw [notFound F]
    exact back_packet h bp F

theorem recv_zero (S : Ch) (n : Int) (K : Hd) : (recvC S n K).2.1 = 0 := by
  unfold recvC
  repeat' split
  all_goals rfl
theorem ack_zero (S : Ch) (n : Int) (K : Hd) : (ackC S n K).2.1 = 0 := by
  unfold ackC
  repeat' split
  all_goals rfl
theorem back_zero (S : Ch) (n : Int) (K : Hd) (c : Bool) : (backC S n K c).2.1 = 0 := by
  unfold backC
  repeat' split
  all_goals rfl

theorem HdOk.grown {w1 : World} (h : HdOk own w K) (g : w.grownBy w1 none) : HdOk own w1 K := h.keepS (grown_stepS (T := fun _ => False) g) (by simp)

set_option maxRecDepth 100000 in
set_option maxHeartbeats 800000 in
theorem do_recv {ah : Option Addr} {hl ch : Nat} (h : RefCh own o w b S a) (ho : o ≠ 0) (hK : HdOk own w K) (bK : K.hd.packets.length ≤ 1048576) (ba : S.hd.answers.length ≤ 1048576) (hvK : ∀ p ∈ K.hd.packets, GoodPk p) :
    Calls Tryz.prog 36 #[.pointer (some ⟨b, 0, none⟩), stepAgg 4 n p, hdrAgg K, .slice ah hl ch] w fun e w' => Left own o w b (recvC S n K.hd) e w' := by
  have g2 := fun (X Y : Obj) => grown_alloc (World.grownBy_alloc w X none) Y
  have h2 := fun (X Y : Obj) => (ref_same h (g2 X Y)).1
  have k2 := fun (X Y : Obj) => hK.grown (g2 X Y)
  have hs := fun (X Y : Obj) => recv_spec (n := n) (h2 X Y) ho (k2 X Y) bK ba hvK
  have HZ : Hid ((recvC S n K.hd).2.1 = 0) := recv_zero S n K.hd
  obtain ⟨r, hr⟩ : ∃ r, recvC S n K.hd = r := ⟨_, rfl⟩
  rw [hr] at hs HZ ⊢
  clear hr
  go_enter Tryz.func36, Tryz.ntmps36
  go_wp2_with fail
  refine (hs _ _).mono ?_
  rintro e w1 ⟨rfl, h1⟩
  go_wp2_with fail
  go_ret2
  exact ⟨by rw [HZ.out]; rfl, h1.before (g2 _ _)⟩

set_option maxRecDepth 100000 in
set_option maxHeartbeats 800000 in
theorem do_ack {ah : Option Addr} {hl ch : Nat} (h : RefCh own o w b S a) (ho : o ≠ 0) (hK : HdOk own w K) (bp : S.hd.packets.length ≤ 1048576) (bKa : K.hd.answers.length ≤ 1048576) (hv : ∀ p ∈ S.hd.packets, GoodPk p) :
    Calls Tryz.prog 36 #[.pointer (some ⟨b, 0, none⟩), stepAgg 5 n p, hdrAgg K, .slice ah hl ch] w fun e w' => Left own o w b (ackC S n K.hd) e w' := by
  have g2 := fun (X Y : Obj) => grown_alloc (World.grownBy_alloc w X none) Y
  have h2 := fun (X Y : Obj) => (ref_same h (g2 X Y)).1
  have k2 := fun (X Y : Obj) => hK.grown (g2 X Y)
  have hs := fun (X Y : Obj) => ack_spec (n := n) (h2 X Y) ho (k2 X Y) bp bKa hv
  have HZ : Hid ((ackC S n K.hd).2.1 = 0) := ack_zero S n K.hd
  obtain ⟨r, hr⟩ : ∃ r, ackC S n K.hd = r := ⟨_, rfl⟩
  rw [hr] at hs HZ ⊢
  clear hr
  go_enter Tryz.func36, Tryz.ntmps36
  go_wp2_with fail
  refine (hs _ _).mono ?_
  rintro e w1 ⟨rfl, h1⟩
  go_wp2_with fail
  go_ret2
  exact ⟨by rw [HZ.out]; rfl, h1.before (g2 _ _)⟩

set_option maxRecDepth 100000 in
set_option maxHeartbeats 800000 in
theorem do_back0 {ah : Option Addr} {hl ch : Nat} (h : RefCh own o w b S a) (ho : o ≠ 0) (bp : S.hd.packets.length ≤ 1048576) (hv : ∀ p ∈ S.hd.packets, GoodPk p) :
    Calls Tryz.prog 36 #[.pointer (some ⟨b, 0, none⟩), stepAgg 6 n p, hdrAgg K, .slice ah hl ch] w fun e w' => Left own o w b (backC S n K.hd false) e w' := by
  have g2 := fun (X Y : Obj) => grown_alloc (World.grownBy_alloc w X none) Y
  have h2 := fun (X Y : Obj) => (ref_same h (g2 X Y)).1
  have hs := fun (X Y : Obj) => back_spec (K := K) (n := n) false (h2 X Y) ho bp hv
  have HZ : Hid ((backC S n K.hd false).2.1 = 0) := back_zero S n K.hd false
  obtain ⟨r, hr⟩ : ∃ r, backC S n K.hd false = r := ⟨_, rfl⟩
  rw [hr] at hs HZ ⊢
  clear hr
  go_enter Tryz.func36, Tryz.ntmps36
  go_wp2_with fail
  refine (hs _ _).mono ?_
  rintro e w1 ⟨rfl, h1⟩
  go_wp2_with fail
  go_ret2
  exact ⟨by rw [HZ.out]; rfl, h1.before (g2 _ _)⟩

set_option maxRecDepth 100000 in
set_option maxHeartbeats 800000 in
theorem do_back1 {ah : Option Addr} {hl ch : Nat} (h : RefCh own o w b S a) (ho : o ≠ 0) (bp : S.hd.packets.length ≤ 1048576) (hv : ∀ p ∈ S.hd.packets, GoodPk p) :
    Calls Tryz.prog 36 #[.pointer (some ⟨b, 0, none⟩), stepAgg 7 n p, hdrAgg K, .slice ah hl ch] w fun e w' => Left own o w b (backC S n K.hd true) e w' := by
  have g2 := fun (X Y : Obj) => grown_alloc (World.grownBy_alloc w X none) Y
  have h2 := fun (X Y : Obj) => (ref_same h (g2 X Y)).1
  have hs := fun (X Y : Obj) => back_spec (K := K) (n := n) true (h2 X Y) ho bp hv
  have HZ : Hid ((backC S n K.hd true).2.1 = 0) := back_zero S n K.hd true
  obtain ⟨r, hr⟩ : ∃ r, backC S n K.hd true = r := ⟨_, rfl⟩
  rw [hr] at hs HZ ⊢
  clear hr
  go_enter Tryz.func36, Tryz.ntmps36
  go_wp2_with fail
  refine (hs _ _).mono ?_
  rintro e w1 ⟨rfl, h1⟩
  go_wp2_with fail
  go_ret2
  exact ⟨by rw [HZ.out]; rfl, h1.before (g2 _ _)⟩

/-- A chain's step, by its kind. -/
theorem do_spec {k : Int} {ah : Option Addr} {hl ch : Nat} (h : RefCh own o w b S a) (ho : o ≠ 0) (hK : HdOk own w K)
    (bp : S.hd.packets.length ≤ 1048576) (ba : S.hd.answers.length ≤ 1048576) (bh : S.heads.length ≤ 1048576) (bk : S.known ≤ 1048576) (bl : hl ≤ 1048576) (bK : K.hd.packets.length ≤ 1048576) (bKa : K.hd.answers.length ≤ 1048576)
    (hv : ∀ p ∈ S.hd.packets, GoodPk p) (hvK : ∀ p ∈ K.hd.packets, GoodPk p) (hn : 0 ≤ n) :
    Calls Tryz.prog 36 #[.pointer (some ⟨b, 0, none⟩), stepAgg k n p, hdrAgg K, .slice ah hl ch] w fun e w' => Left own o w b (doC S k n p K.hd hl) e w' := by
  have bh' : a.hs.length ≤ 1048576 := by have := congrArg List.length h.heads; simp at this; omega
  unfold doC
  by_cases k1 : k = 1
  · subst k1; rw [if_pos rfl]; exact do_send h ho bp
  rw [if_neg k1]
  by_cases k2 : k = 2
  · subst k2; rw [if_pos rfl]; exact do_tick h ho bp ba bh'
  rw [if_neg k2]
  by_cases k3 : k = 3
  · subst k3; rw [if_pos rfl]; exact do_update h ho hn bk bl
  rw [if_neg k3]
  by_cases k4 : k = 4
  · subst k4; rw [if_pos rfl]; exact do_recv h ho hK bK ba hvK
  rw [if_neg k4]
  by_cases k5 : k = 5
  · subst k5; rw [if_pos rfl]; exact do_ack h ho hK bp bKa hv
  rw [if_neg k5]
  by_cases k6 : k = 6
  · subst k6; rw [if_pos rfl]; exact do_back0 h ho bp hv
  rw [if_neg k6]
  by_cases k7 : k = 7
  · subst k7; rw [if_pos rfl]; exact do_back1 h ho bp hv
  rw [if_neg k7]
  by_cases k8 : k = 8
  · subst k8; rw [if_pos rfl]; exact do_close h ho
  rw [if_neg k8]
  by_cases k9 : k = 9
  · subst k9; rw [if_pos rfl]; exact do_confirm h ho
  rw [if_neg k9]
  exact do_other h (by simpa using k1) (by simpa using k2) (by simpa using k3) (by simpa using k4) (by simpa using k5) (by simpa using k6) (by simpa using k7) (by simpa using k8) (by simpa using k9)

end

theorem knownHd_mem {S O : Ch} (hk : S.known < O.heads.length) : knownHd S O ∈ O.heads := by
  unfold knownHd
  rw [List.getElem?_eq_getElem hk]
  exact List.getElem_mem hk

theorem rdo_spec {own : Nat → Nat} {o : Nat} {w : World} {bm b0 b1 : Nat} {m : Mod} {a0 a1 : At} {N c : Nat} {k n : Int} {p : Pk} (h : RefMod own o w bm b0 b1 m a0 a1) (ho : o ≠ 0) (hL : Lim m N) (hN : N ≤ 1000000) (hc : c = 0 ∨ c = 1) (hn : 0 ≤ n) :
    Calls Tryz.prog 22 #[.pointer (some ⟨bm, 0, none⟩), .int .i64 c, stepAgg k n p, .int .i64 (if c = 0 then m.c1.heads.length else m.c0.heads.length : Nat)] w fun e w' =>
      e = .returned (.tuple #[.int .u64 (doM m c k n p).2.1, .int .i64 (doM m c k n p).2.2]) ∧ ModTo own o (fun l => l = o ∨ l = o + 1 ∨ l = o + 2) w bm b0 b1 (doM m c k n p).1 w' := by
  obtain ⟨⟨p0, q0, r0, s0, v0, vh0⟩, ⟨p1, q1, r1, s1, v1, vh1⟩, t0, t1⟩ := hL
  rcases hc with rfl | rfl
  · obtain ⟨K, hK, hKd⟩ := heads_at h.c1 s0
    have hl := heads_len h.c1
    have hm := knownHd_mem s0
    rw [← hKd] at hm
    rw [if_pos rfl, ← hl]
    have hr := mod_do0 (k := k) (n := n) (p := p) (hl := a1.hs.length) (r := doC m.c0 k n p (knownHd m.c0 m.c1) m.c1.heads.length) h ho hK (Nat.le_refl _) (by omega) t0 (by omega)
      (fun own1 w1 ah ch hR hKo => by rw [← hKd, ← hl]; exact do_spec hR (by omega) hKo (by omega) (by omega) (by omega) (by omega) (by omega) (by have := (vh1 _ hm).1.1; omega) (by have := (vh1 _ hm).1.2; omega) v0 (vh1 _ hm).2 hn)
    refine hr.mono ?_
    rintro e w' ⟨he, own', x0, x1, hm, hs⟩
    exact ⟨he, own', x0, x1, hm, hs.wider (fun l hl => by rcases hl with e | e <;> simp [e])⟩
  · obtain ⟨K, hK, hKd⟩ := heads_at h.c0 s1
    have hl := heads_len h.c0
    have hm := knownHd_mem s1
    rw [← hKd] at hm
    rw [if_neg (by decide), ← hl]
    have hr := mod_do1 (k := k) (n := n) (p := p) (hl := a0.hs.length) (r := doC m.c1 k n p (knownHd m.c1 m.c0) m.c0.heads.length) h ho hK (Nat.le_refl _) (by omega) t0 (by omega)
      (fun own1 w1 ah ch hR hKo => by rw [← hKd, ← hl]; exact do_spec hR (by omega) hKo (by omega) (by omega) (by omega) (by omega) (by omega) (by have := (vh0 _ hm).1.1; omega) (by have := (vh0 _ hm).1.2; omega) v1 (vh0 _ hm).2 hn)
    refine hr.mono ?_
    rintro e w' ⟨he, own', x0, x1, hm, hs⟩
    exact ⟨he, own', x0, x1, hm, hs.wider (fun l hl => by rcases hl with e | e <;> simp [e])⟩

end Go.Proofs.YtmfdhcnnhlchbaaGreat
