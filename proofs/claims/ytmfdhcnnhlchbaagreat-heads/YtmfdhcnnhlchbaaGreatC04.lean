import Derived.Test.YtmfdhcnnhlchbaaGreatC02
import Derived.Test.YtmfdhcnnhlchbaaGreatC03
import Derived.Deep.RegionHeld3
namespace Go.Proofs.YtmfdhcnnhlchbaaGreat
open Go.RowKit

theorem same_to {own : Nat → Nat} {o : Nat} {w w1 : World} {b : Nat} {S : Ch} {a : At} (h : RefCh own o w b S a) (g : w.grownBy w1 none) : RefTo own o w b S w1 := ⟨own, a, ref_same h g⟩

section
variable {own : Nat → Nat} {o : Nat} {w : World} {b : Nat} {S : Ch} {a : At} {p : Pk}

set_option maxRecDepth 100000 in
set_option maxHeartbeats 800000 in
theorem send_closed (h : RefCh own o w b S a) (hop : S.hd.isOpen = false) :
    Calls Tryz.prog 49 #[.pointer (some ⟨b, 0, none⟩), p.agg] w fun e w' => e = .returned (.tuple #[.int .u64 0, .int .i64 2]) ∧ RefTo own o w b S w' := by
  obtain ⟨c0, c1, c2, c3, c4, c5, c6, c7, c8, c9, c10, c11, c12, c13, c14, c15, c16, c17, hf⟩ := ch_cells h.blk
  have hbl : b < w.heap.size := blk_lt h.blk
  go_enter Tryz.func49, Tryz.ntmps49
  go_wp2_with fail
  go_ret2
  exact ⟨rfl, same_to h (World.grownBy_alloc _ _ _)⟩

set_option maxRecDepth 100000 in
set_option maxHeartbeats 800000 in
theorem send_user (h : RefCh own o w b S a) (hop : S.hd.isOpen = true) (hu : p.src < 0 ∨ 2 < p.src) :
    Calls Tryz.prog 49 #[.pointer (some ⟨b, 0, none⟩), p.agg] w fun e w' => e = .returned (.tuple #[.int .u64 0, .int .i64 3]) ∧ RefTo own o w b S w' := by
  obtain ⟨c0, c1, c2, c3, c4, c5, c6, c7, c8, c9, c10, c11, c12, c13, c14, c15, c16, c17, hf⟩ := ch_cells h.blk
  have hbl : b < w.heap.size := blk_lt h.blk
  have hd1 : decide (p.src < 0) = true ∨ decide (p.src < 0) = false ∧ decide (2 < p.src) = true := by simp; omega
  clear hu
  rcases hd1 with hd1 | ⟨hd1, hd2⟩
  all_goals
    go_enter Tryz.func49, Tryz.ntmps49
    go_wp2_with fail
    go_ret2
    exact ⟨rfl, same_to h (World.grownBy_alloc _ _ _)⟩

set_option maxRecDepth 100000 in
set_option maxHeartbeats 800000 in
theorem send_coin (h : RefCh own o w b S a) (hop : S.hd.isOpen = true) (hs0 : 0 ≤ p.src) (hs1 : p.src ≤ 2) (hu : p.coin < 0 ∨ 1 < p.coin) :
    Calls Tryz.prog 49 #[.pointer (some ⟨b, 0, none⟩), p.agg] w fun e w' => e = .returned (.tuple #[.int .u64 0, .int .i64 4]) ∧ RefTo own o w b S w' := by
  obtain ⟨c0, c1, c2, c3, c4, c5, c6, c7, c8, c9, c10, c11, c12, c13, c14, c15, c16, c17, hf⟩ := ch_cells h.blk
  have hbl : b < w.heap.size := blk_lt h.blk
  have hd1 : decide (p.src < 0) = false := by simp; omega
  have hd2 : decide (2 < p.src) = false := by simp; omega
  have hd3 : decide (p.coin < 0) = true ∨ decide (p.coin < 0) = false ∧ decide (1 < p.coin) = true := by simp; omega
  clear hu
  rcases hd3 with hd3 | ⟨hd3, hd4⟩
  all_goals
    go_enter Tryz.func49, Tryz.ntmps49
    go_wp2_with fail
    go_ret2
    exact ⟨rfl, same_to h (World.grownBy_alloc _ _ _)⟩

set_option maxRecDepth 100000 in
set_option maxHeartbeats 800000 in
theorem send_amount (h : RefCh own o w b S a) (hop : S.hd.isOpen = true) (hs0 : 0 ≤ p.src) (hs1 : p.src ≤ 2) (hc0 : 0 ≤ p.coin) (hc1 : p.coin ≤ 1) (ham : (p.amount == 0) = true) :
    Calls Tryz.prog 49 #[.pointer (some ⟨b, 0, none⟩), p.agg] w fun e w' => e = .returned (.tuple #[.int .u64 0, .int .i64 5]) ∧ RefTo own o w b S w' := by
  obtain ⟨c0, c1, c2, c3, c4, c5, c6, c7, c8, c9, c10, c11, c12, c13, c14, c15, c16, c17, hf⟩ := ch_cells h.blk
  have hbl : b < w.heap.size := blk_lt h.blk
  have hd1 : decide (p.src < 0) = false := by simp; omega
  have hd2 : decide (2 < p.src) = false := by simp; omega
  have hd3 : decide (p.coin < 0) = false := by simp; omega
  have hd4 : decide (1 < p.coin) = false := by simp; omega
  go_enter Tryz.func49, Tryz.ntmps49
  go_wp2_with fail
  go_ret2
  exact ⟨rfl, same_to h (World.grownBy_alloc _ _ _)⟩

set_option maxRecDepth 100000 in
set_option maxHeartbeats 800000 in
theorem send_funds (h : RefCh own o w b S a) (hop : S.hd.isOpen = true) (hs0 : 0 ≤ p.src) (hs1 : p.src ≤ 2) (hc0 : 0 ≤ p.coin) (hc1 : p.coin ≤ 1) (ham : (p.amount == 0) = false)
    (hlt : S.get (hasAt p.src p.coin) < p.amount) :
    Calls Tryz.prog 49 #[.pointer (some ⟨b, 0, none⟩), p.agg] w fun e w' => e = .returned (.tuple #[.int .u64 0, .int .i64 6]) ∧ RefTo own o w b S w' := by
  have hkk : hasAt p.src p.coin < 6 := by unfold hasAt; omega
  obtain ⟨c0, c1, c2, c3, c4, c5, c6, c7, c8, c9, c10, c11, c12, c13, c14, c15, c16, c17, hf⟩ := ch_cells h.blk
  have hx := has_cell h.blk hkk
  rw [show 7 + hasAt p.src p.coin = 7 + p.src.toNat * 2 + p.coin.toNat from by unfold hasAt; omega] at hx
  have hbl : b < w.heap.size := blk_lt h.blk
  have hd1 : decide (p.src < 0) = false := by simp; omega
  have hd2 : decide (2 < p.src) = false := by simp; omega
  have hd3 : decide (p.coin < 0) = false := by simp; omega
  have hd4 : decide (1 < p.coin) = false := by simp; omega
  generalize S.get (hasAt p.src p.coin) = G at hx hlt
  go_enter Tryz.func49, Tryz.ntmps49
  go_wp2_with fail
  go_quiet (fail)
  go_wp2_with fail
  go_ret2
  exact ⟨rfl, same_to h (grown_drewN (World.grownBy_alloc _ _ _) _)⟩

set_option maxRecDepth 100000 in
set_option maxHeartbeats 800000 in
theorem send_due (h : RefCh own o w b S a) (hop : S.hd.isOpen = true) (hs0 : 0 ≤ p.src) (hs1 : p.src ≤ 2) (hc0 : 0 ≤ p.coin) (hc1 : p.coin ≤ 1) (ham : (p.amount == 0) = false)
    (hlt : ¬ S.get (hasAt p.src p.coin) < p.amount) (hdh : (p.height == 0) = true) (hdt : (p.time == 0) = true) :
    Calls Tryz.prog 49 #[.pointer (some ⟨b, 0, none⟩), p.agg] w fun e w' => e = .returned (.tuple #[.int .u64 0, .int .i64 7]) ∧ RefTo own o w b S w' := by
  have hkk : hasAt p.src p.coin < 6 := by unfold hasAt; omega
  obtain ⟨c0, c1, c2, c3, c4, c5, c6, c7, c8, c9, c10, c11, c12, c13, c14, c15, c16, c17, hf⟩ := ch_cells h.blk
  have hx := has_cell h.blk hkk
  rw [show 7 + hasAt p.src p.coin = 7 + p.src.toNat * 2 + p.coin.toNat from by unfold hasAt; omega] at hx
  have hbl : b < w.heap.size := blk_lt h.blk
  have hd1 : decide (p.src < 0) = false := by simp; omega
  have hd2 : decide (2 < p.src) = false := by simp; omega
  have hd3 : decide (p.coin < 0) = false := by simp; omega
  have hd4 : decide (1 < p.coin) = false := by simp; omega
  generalize S.get (hasAt p.src p.coin) = G at hx hlt
  go_enter Tryz.func49, Tryz.ntmps49
  go_wp2_with fail
  go_quiet (fail)
  go_wp2_with fail
  go_ret2
  exact ⟨rfl, same_to h (grown_drewN (World.grownBy_alloc _ _ _) _)⟩
end

end Go.Proofs.YtmfdhcnnhlchbaaGreat

namespace Go.Proofs.YtmfdhcnnhlchbaaGreat
open Go.RowKit

/-- What a call of a chain's step has left. -/
def Left (own : Nat → Nat) (o : Nat) (w : World) (b : Nat) (r : Ch × Int × Int) (e : Ending) (w' : World) : Prop :=
  e = .returned (.tuple #[.int .u64 r.2.1, .int .i64 r.2.2]) ∧ RefTo own o w b r.1 w'

section
variable {own : Nat → Nat} {o : Nat} {w : World} {b : Nat} {S : Ch} {a : At} {p : Pk}

theorem send_spec (h : RefCh own o w b S a) (ho : o ≠ 0) (bp : S.hd.packets.length ≤ 1048576) :
    Calls Tryz.prog 49 #[.pointer (some ⟨b, 0, none⟩), p.agg] w fun e w' => Left own o w b (sendC S p) e w' := by
  unfold sendC Left
  by_cases h1 : S.hd.isOpen = false
  · rw [if_pos h1]; exact send_closed h h1
  rw [if_neg h1]
  simp only [Bool.not_eq_false] at h1
  by_cases h2 : p.src < 0 ∨ 2 < p.src
  · rw [if_pos h2]; exact send_user h h1 h2
  rw [if_neg h2]
  by_cases h3 : p.coin < 0 ∨ 1 < p.coin
  · rw [if_pos h3]; exact send_coin h h1 (by omega) (by omega) h3
  rw [if_neg h3]
  by_cases h4 : p.amount = 0
  · rw [if_pos h4]; exact send_amount h h1 (by omega) (by omega) (by omega) (by omega) (by simp [h4])
  rw [if_neg h4]
  by_cases h5 : S.get (hasAt p.src p.coin) < p.amount
  · rw [if_pos h5]; exact send_funds h h1 (by omega) (by omega) (by omega) (by omega) (by simp [h4]) h5
  rw [if_neg h5]
  by_cases h6 : p.height = 0 ∧ p.time = 0
  · rw [if_pos h6]; exact send_due h h1 (by omega) (by omega) (by omega) (by omega) (by simp [h4]) h5 (by simp [h6.1]) (by simp [h6.2])
  rw [if_neg h6]
  refine send_ok h ho bp h1 (by omega) (by omega) (by omega) (by omega) (by simp [h4]) h5 ?_
  by_cases e : p.height = 0
  · have : ¬ p.time = 0 := fun e2 => h6 ⟨e, e2⟩
    simp [this]
  · simp [e]

theorem RefTo.before {w1 w2 : World} {S' : Ch} (g : w.grownBy w1 none) (h : RefTo own o w1 b S' w2) : RefTo own o w b S' w2 := by
  obtain ⟨own', a', h1, h2⟩ := h
  exact ⟨own', a', h1, Step.trans ⟨g.os, g.tape, g.output, g.size, fun _ _ => rfl, fun k hk _ => g.block k hk (by simp)⟩ h2⟩

theorem RefTo.after {w1 w2 : World} {S' : Ch} (h : RefTo own o w b S' w1) (g : w1.grownBy w2 none) : RefTo own o w b S' w2 := by
  obtain ⟨own', a', h1, h2⟩ := h
  exact ⟨own', a', (ref_same h1 g).1, h2.trans (ref_same h1 g).2⟩

abbrev hdrAgg (K : HdV) : Value := .agg #[.int .u64 K.hd.height, .int .u64 K.hd.time, .bool K.hd.isOpen, .int .u64 K.hd.nextRecv, .slice K.ap K.hd.packets.length K.cp, .slice K.aa K.hd.answers.length K.ca]

set_option maxRecDepth 100000 in
set_option maxHeartbeats 800000 in
theorem do_send {K : HdV} {n : Int} {ah : Option Addr} {hl ch : Nat} (h : RefCh own o w b S a) (ho : o ≠ 0) (bp : S.hd.packets.length ≤ 1048576) :
    Calls Tryz.prog 36 #[.pointer (some ⟨b, 0, none⟩), stepAgg 1 n p, hdrAgg K, .slice ah hl ch] w fun e w' => Left own o w b (sendC S p) e w' := by
  have hs := fun (X Y : Obj) => send_spec (p := p) (ref_same h (grown_alloc (World.grownBy_alloc w X none) Y)).1 ho bp
  go_enter Tryz.func36, Tryz.ntmps36
  go_wp2_with fail
  refine (hs _ _).mono ?_
  rintro e w1 ⟨rfl, h1⟩
  go_wp2_with fail
  go_ret2
  exact ⟨rfl, h1.before (grown_alloc (World.grownBy_alloc w _ none) _)⟩

set_option maxRecDepth 100000 in
set_option maxHeartbeats 800000 in
theorem do_other {K : HdV} {k n : Int} {ah : Option Addr} {hl ch : Nat} (h : RefCh own o w b S a) (k1 : (k == 1) = false) (k2 : (k == 2) = false) (k3 : (k == 3) = false) (k4 : (k == 4) = false) (k5 : (k == 5) = false) (k6 : (k == 6) = false) (k7 : (k == 7) = false) (k8 : (k == 8) = false) (k9 : (k == 9) = false) :
    Calls Tryz.prog 36 #[.pointer (some ⟨b, 0, none⟩), stepAgg k n p, hdrAgg K, .slice ah hl ch] w fun e w' => Left own o w b (S, 0, 16) e w' := by
  go_enter Tryz.func36, Tryz.ntmps36
  go_wp2_with fail
  go_ret2
  exact ⟨rfl, same_to h (grown_alloc (World.grownBy_alloc w _ none) _)⟩

/-- A chain of which only plain cells have turned. -/
theorem cell_to {w1 : World} {S' : Ch} (h : RefCh own o w b S a) (g : w.grownBy w1 (some b)) (ho : o ≠ 0) (hB : w1.heap[b]? = some (.cells (chCells S' a).toArray tCh (0, 0)))
    (e1 : S'.hd.packets = S.hd.packets) (e2 : S'.hd.answers = S.hd.answers) (e3 : S'.heads = S.heads) : RefTo own o w b S' w1 := by
  have hk : ∀ k, k < w.heap.size → k ≠ b → some k ≠ none → w1.heap[k]? = w.heap[k]? := fun k hk hkb _ => g.block k hk (by simpa using hkb)
  refine (ref_build (w' := w1) (S' := S') (a' := a) h g.os g.tape g.output g.size (fun k hk1 hne => g.block k hk1 (fun e => hne (by simp at e; rw [e, h.lb]))) ho hB ?_ ?_ ?_ ?_ ?_ ?_ (by rw [e3]; exact h.heads) (fun x hx => .inl hx)).elim fun own' h' => ⟨own', _, h'⟩
  · have := row_keep h.pk h.blk (by decide) (fun _ _ => by simp) hk
    simpa [ownsPk, At.vp, e1] using this
  · intro k e _; exact h.lpk k (by simpa [At.vp, e1] using e)
  · have := row_keep h.an h.blk (by decide) (fun _ _ => by simp) hk
    simpa [ownsAns, At.va, e2] using this
  · intro k e _; exact h.lan k (by simpa [At.va, e2] using e)
  · exact row_keep h.hd h.blk (by decide) (fun _ _ => by simp) hk
  · exact fun k e _ => h.lhd k e

set_option maxRecDepth 100000 in
set_option maxHeartbeats 800000 in
theorem do_close {K : HdV} {n : Int} {ah : Option Addr} {hl ch : Nat} (h : RefCh own o w b S a) (ho : o ≠ 0) :
    Calls Tryz.prog 36 #[.pointer (some ⟨b, 0, none⟩), stepAgg 8 n p, hdrAgg K, .slice ah hl ch] w fun e w' => Left own o w b (closeC S) e w' := by
  obtain ⟨c0, c1, c2, c3, c4, c5, c6, c7, c8, c9, c10, c11, c12, c13, c14, c15, c16, c17, hf⟩ := ch_cells h.blk
  have hbl : b < w.heap.size := blk_lt h.blk
  unfold closeC
  by_cases h1 : S.hd.isOpen = false
  · rw [if_pos h1]
    go_enter Tryz.func36, Tryz.ntmps36
    go_wp2_with fail
    go_ret2
    exact ⟨rfl, same_to h (grown_alloc (World.grownBy_alloc w _ none) _)⟩
  · rw [if_neg h1]
    simp only [Bool.not_eq_false] at h1
    go_enter Tryz.func36, Tryz.ntmps36
    go_wp2_with fail
    go_ret2
    refine ⟨rfl, cell_to h (grown_alloc (grown_alloc (grown_set (grown_refl w _) _ _ (.inl rfl)) _) _) ho ?_ rfl rfl rfl⟩
    rw [heap_alloc_old _ _ (by rw [size_alloc', setCell_size]; omega), heap_alloc_old _ _ (by rw [setCell_size]; omega), setCell_same h.blk]
    rfl

set_option maxRecDepth 100000 in
set_option maxHeartbeats 800000 in
theorem do_confirm {K : HdV} {n : Int} {ah : Option Addr} {hl ch : Nat} (h : RefCh own o w b S a) (ho : o ≠ 0) :
    Calls Tryz.prog 36 #[.pointer (some ⟨b, 0, none⟩), stepAgg 9 n p, hdrAgg K, .slice ah hl ch] w fun e w' => Left own o w b (confirmC S K.hd) e w' := by
  obtain ⟨c0, c1, c2, c3, c4, c5, c6, c7, c8, c9, c10, c11, c12, c13, c14, c15, c16, c17, hf⟩ := ch_cells h.blk
  have hbl : b < w.heap.size := blk_lt h.blk
  unfold confirmC
  by_cases h1 : S.hd.isOpen = false
  · rw [if_pos h1]
    go_enter Tryz.func36, Tryz.ntmps36
    go_wp2_with fail
    go_ret2
    exact ⟨rfl, same_to h (grown_alloc (World.grownBy_alloc w _ none) _)⟩
  rw [if_neg h1]
  simp only [Bool.not_eq_false] at h1
  by_cases h2 : K.hd.isOpen = true
  · rw [if_pos h2]
    go_enter Tryz.func36, Tryz.ntmps36
    go_wp2_with fail
    go_ret2
    exact ⟨rfl, same_to h (grown_alloc (World.grownBy_alloc w _ none) _)⟩
  · rw [if_neg h2]
    simp only [Bool.not_eq_true] at h2
    go_enter Tryz.func36, Tryz.ntmps36
    go_wp2_with fail
    go_ret2
    refine ⟨rfl, cell_to h (grown_alloc (grown_alloc (grown_set (grown_refl w _) _ _ (.inl rfl)) _) _) ho ?_ rfl rfl rfl⟩
    rw [heap_alloc_old _ _ (by rw [size_alloc', setCell_size]; omega), heap_alloc_old _ _ (by rw [setCell_size]; omega), setCell_same h.blk]
    rfl
end

end Go.Proofs.YtmfdhcnnhlchbaaGreat

namespace Go.Proofs.YtmfdhcnnhlchbaaGreat
open Go.RowKit

section
variable {own : Nat → Nat} {o : Nat} {w : World} {b : Nat} {S : Ch} {a : At} {p : Pk}

/-- A chain of which only plain cells have turned: its rows lie where they lay. -/
theorem cell_ref {w1 : World} {S' : Ch} (h : RefCh own o w b S a) (g : w.grownBy w1 (some b)) (hB : w1.heap[b]? = some (.cells (chCells S' a).toArray tCh (0, 0)))
    (ho : o ≠ 0) (e1 : S'.hd.packets = S.hd.packets) (e2 : S'.hd.answers = S.hd.answers) (e3 : S'.heads = S.heads) : RefCh own o w1 b S' a ∧ Step own own o w w1 := by
  have hk : ∀ k, k < w.heap.size → k ≠ b → some k ≠ none → w1.heap[k]? = w.heap[k]? := fun k hk hkb _ => g.block k hk (by simpa using hkb)
  refine ⟨⟨hB, h.lb, ?_, ?_, ?_, ?_, ?_, h.lhd, by rw [e3]; exact h.heads, ?_⟩, ⟨g.os, g.tape, g.output, g.size, fun _ _ => rfl, fun k hk1 hne => g.block k hk1 (fun e => hne (by simp at e; rw [e, h.lb]))⟩⟩
  · have := row_keep h.pk h.blk (by decide) (fun _ _ => by simp) hk
    simpa [ownsPk, At.vp, e1] using this
  · intro k e; exact h.lpk k (by simpa [At.vp, e1] using e)
  · have := row_keep h.an h.blk (by decide) (fun _ _ => by simp) hk
    simpa [ownsAns, At.va, e2] using this
  · intro k e; exact h.lan k (by simpa [At.va, e2] using e)
  · exact row_keep h.hd h.blk (by decide) (fun _ _ => by simp) hk
  · intro x hx
    obtain ⟨f1, f2, f3, f4⟩ := h.each x hx
    exact ⟨owns_keep f1 fun k e => hk k (owns_lt f1 e) (fun e0 => ho (by rw [← h.lb, ← e0, f2 k e])) (by simp), f2, owns_keep f3 fun k e => hk k (owns_lt f3 e) (fun e0 => ho (by rw [← h.lb, ← e0, f4 k e])) (by simp), f4⟩

theorem RefTo.since {w1 w2 : World} {S' : Ch} (g : Step own own o w w1) (h : RefTo own o w1 b S' w2) : RefTo own o w b S' w2 := by
  obtain ⟨own', a', h1, h2⟩ := h
  exact ⟨own', a', h1, g.trans h2⟩

theorem commit_to (h : RefCh own o w b S a) (ho : o ≠ 0) (bp : S.hd.packets.length ≤ 1048576) (ba : S.hd.answers.length ≤ 1048576) (bh : a.hs.length ≤ 1048576) :
    Calls Tryz.prog 33 #[.pointer (some ⟨b, 0, none⟩)] w fun e w' => e = .returned (.tuple #[]) ∧ RefTo own o w b { S with heads := S.heads ++ [S.hd] } w' := commit_spec h ho bp ba bh

set_option maxRecDepth 100000 in
set_option maxHeartbeats 800000 in
theorem do_tick {K : HdV} {n : Int} {ah : Option Addr} {hl ch : Nat} (h : RefCh own o w b S a) (ho : o ≠ 0)
    (bp : S.hd.packets.length ≤ 1048576) (ba : S.hd.answers.length ≤ 1048576) (bh : a.hs.length ≤ 1048576) :
    Calls Tryz.prog 36 #[.pointer (some ⟨b, 0, none⟩), stepAgg 2 n p, hdrAgg K, .slice ah hl ch] w fun e w' => Left own o w b (tickC S n) e w' := by
  obtain ⟨c0, c1, c2, c3, c4, c5, c6, c7, c8, c9, c10, c11, c12, c13, c14, c15, c16, c17, hf⟩ := ch_cells h.blk
  have hbl : b < w.heap.size := blk_lt h.blk
  unfold tickC
  by_cases h1 : IntKind.u64.wrap (18446744073709551615 - S.hd.time) < n
  · rw [if_pos h1]
    go_enter Tryz.func36, Tryz.ntmps36
    go_wp2_with fail
    go_quiet (fail)
    go_wp2_with fail
    go_ret2
    exact ⟨rfl, same_to h (grown_drewN (grown_alloc (World.grownBy_alloc w _ none) _) _)⟩
  · rw [if_neg h1]
    go_enter Tryz.func36, Tryz.ntmps36
    go_wp2_with fail
    go_quiet (fail)
    go_wp2_with fail
    go_region
    go_wp2_with fail
    have hR : ∀ (X Y : Obj) (m : Nat), RefCh own o (((((w.alloc X).alloc Y).drewN m).setCell ⟨b, 1, none⟩ (.int .u64 (IntKind.u64.wrap (S.hd.time + n)))).setCell ⟨b, 0, none⟩ (.int .u64 (IntKind.u64.wrap (S.hd.height + 1)))) b (S.later n) a ∧ Step own own o w (((((w.alloc X).alloc Y).drewN m).setCell ⟨b, 1, none⟩ (.int .u64 (IntKind.u64.wrap (S.hd.time + n)))).setCell ⟨b, 0, none⟩ (.int .u64 (IntKind.u64.wrap (S.hd.height + 1)))) := by
      intro X Y m
      have e1 : (((w.alloc X).alloc Y).drewN m).heap[b]? = some (.cells (chCells S a).toArray tCh (0, 0)) := by
        rw [drewN_heap, heap_alloc_old _ _ (by simp; omega), heap_alloc_old _ _ hbl]; exact h.blk
      refine cell_ref h (grown_set (grown_set (grown_drewN (grown_alloc (World.grownBy_alloc w _ _) _) _) _ _ (.inl rfl)) _ _ (.inl rfl)) ?_ ho rfl rfl rfl
      rw [setCell_same (setCell_same e1 1 _)]
      rfl
    refine (commit_to (hR _ _ _).1 ho bp ba bh).mono ?_
    rintro e w1 ⟨rfl, h2⟩
    go_wp2_with fail
    go_ret2
    exact ⟨rfl, RefTo.since (hR _ _ _).2 h2⟩
end

end Go.Proofs.YtmfdhcnnhlchbaaGreat

namespace Go.Proofs.YtmfdhcnnhlchbaaGreat
open Go.RowKit

section
variable {own : Nat → Nat} {o : Nat} {w : World} {b : Nat} {S : Ch} {a : At} {p : Pk}

set_option maxRecDepth 100000 in
set_option maxHeartbeats 800000 in
theorem do_update {K : HdV} {n : Int} {ah : Option Addr} {hl ch : Nat} (h : RefCh own o w b S a) (ho : o ≠ 0) (hn : 0 ≤ n) (bk : S.known ≤ 1048576) (bh : hl ≤ 1048576) :
    Calls Tryz.prog 36 #[.pointer (some ⟨b, 0, none⟩), stepAgg 3 n p, hdrAgg K, .slice ah hl ch] w fun e w' => Left own o w b (updateC S n hl) e w' := by
  obtain ⟨c0, c1, c2, c3, c4, c5, c6, c7, c8, c9, c10, c11, c12, c13, c14, c15, c16, c17, hf⟩ := ch_cells h.blk
  have hbl : b < w.heap.size := blk_lt h.blk
  have w1 : IntKind.u64.wrap (hl : Int) = hl := wrapU_small (by omega) (by omega)
  have w2 : IntKind.u64.wrap (S.known : Int) = S.known := wrapU_small (by omega) (by omega)
  unfold updateC
  by_cases h1 : (hl : Int) ≤ n
  · rw [if_pos (.inl h1)]
    have d1 : decide ((hl : Int) ≤ n) = true := by simpa using h1
    go_enter Tryz.func36, Tryz.ntmps36
    go_wp2_with fail
    go_quiet (fail)
    go_wp2_with fail
    go_ret2
    exact ⟨rfl, same_to h (grown_drewN (grown_alloc (World.grownBy_alloc w _ none) _) _)⟩
  by_cases h2 : n ≤ (S.known : Int)
  · rw [if_pos (.inr h2)]
    have d1 : decide ((hl : Int) ≤ n) = false := by simpa using h1
    have d2 : decide (n ≤ (S.known : Int)) = true := by simpa using h2
    go_enter Tryz.func36, Tryz.ntmps36
    go_wp2_with fail
    go_quiet (fail)
    go_wp2_with fail
    go_ret2
    exact ⟨rfl, same_to h (grown_drewN (grown_alloc (World.grownBy_alloc w _ none) _) _)⟩
  · rw [if_neg (by omega)]
    have d1 : decide ((hl : Int) ≤ n) = false := by simpa using h1
    have d2 : decide (n ≤ (S.known : Int)) = false := by simpa using h2
    have hn3 : n < 9223372036854775807 := by omega
    go_enter Tryz.func36, Tryz.ntmps36
    go_wp2_with fail
    go_quiet (fail)
    go_wp2_with fail
    go_ret2
    refine ⟨rfl, cell_to h (grown_set (grown_drewN (grown_alloc (World.grownBy_alloc w _ _) _) _) _ _ (.inl rfl)) ho ?_ rfl rfl rfl⟩
    rw [setCell_same (c := (chCells S a).toArray) (t := tCh) (f := (0, 0)) (by rw [drewN_heap, heap_alloc_old _ _ (by simp; omega), heap_alloc_old _ _ hbl]; exact h.blk)]
    have e : ((n.toNat : Nat) : Int) = n := by omega
    simp [chCells, e]
end

end Go.Proofs.YtmfdhcnnhlchbaaGreat

namespace Go.Proofs.YtmfdhcnnhlchbaaGreat
open Go.RowKit

abbrev tMod : TypeId := 69

structure RefMod (own : Nat → Nat) (o : Nat) (w : World) (bm b0 b1 : Nat) (m : Mod) (a0 a1 : At) : Prop where
  blk : w.heap[bm]? = some (.cells #[.pointer (some ⟨b0, 0, none⟩), .pointer (some ⟨b1, 0, none⟩), .int .i64 m.taken] tMod (0, 0))
  lb : own bm = o
  c0 : RefCh own (o + 1) w b0 m.c0 a0
  c1 : RefCh own (o + 2) w b1 m.c1 a1

/-- A chain stays under a step that does not name its label. -/
theorem RefCh.keepS {own own' : Nat → Nat} {o : Nat} {w w' : World} {b : Nat} {S : Ch} {a : At} {T : Nat → Prop} (h : RefCh own o w b S a) (g : StepS T own own' w w') (ho : ¬ T o) (h0 : ¬ T 0) : RefCh own' o w' b S a :=
  h.keep (fun k hk e => g.block k hk (by rcases e with e | e <;> rw [e] <;> assumption)) g.label

theorem RefMod.keepS {own own' : Nat → Nat} {o : Nat} {w w' : World} {bm b0 b1 : Nat} {m : Mod} {a0 a1 : At} {T : Nat → Prop} (h : RefMod own o w bm b0 b1 m a0 a1) (g : StepS T own own' w w')
    (h0 : ¬ T 0) (h1 : ¬ T o) (h2 : ¬ T (o + 1)) (h3 : ¬ T (o + 2)) : RefMod own' o w' bm b0 b1 m a0 a1 := by
  have hb := blk_lt h.blk
  exact ⟨(g.block bm hb (by rw [h.lb]; exact h1)).trans h.blk, (g.label bm hb).trans h.lb, h.c0.keepS g h2 h0, h.c1.keepS g h3 h0⟩

/-- What is read of the header that is known. -/
def HdOk (own : Nat → Nat) (w : World) (K : HdV) : Prop := ownsPk w K.vp K.hd.packets ∧ labelled own K.vp 0 ∧ ownsAns w K.va K.hd.answers ∧ labelled own K.va 0

theorem HdOk.keepS {own own' : Nat → Nat} {w w' : World} {K : HdV} {T : Nat → Prop} (h : HdOk own w K) (g : StepS T own own' w w') (h0 : ¬ T 0) : HdOk own' w' K := by
  obtain ⟨e1, e2, e3, e4⟩ := h
  exact ⟨owns_keep e1 fun k e => g.block k (owns_lt e1 e) (by rw [e2 k e]; exact h0), fun k e => (g.label k (owns_lt e1 e)).trans (e2 k e),
    owns_keep e3 fun k e => g.block k (owns_lt e3 e) (by rw [e4 k e]; exact h0), fun k e => (g.label k (owns_lt e3 e)).trans (e4 k e)⟩

theorem blk3 {w : World} {b t : Nat} {x0 x1 x2 : Value} (h : w.heap[b]? = some (.cells #[x0, x1, x2] t (0, 0))) :
    w.cell? ⟨b, 0, none⟩ = some x0 ∧ w.cell? ⟨b, 1, none⟩ = some x1 ∧ w.cell? ⟨b, 2, none⟩ = some x2 ∧ (∀ k, w.frozen? ⟨b, k, none⟩ = false) := by
  refine ⟨?_, ?_, ?_, ?_⟩
  all_goals first
    | (intro k; simp [World.frozen?, h])
    | simp [World.cell?, h]

theorem blk9 {w : World} {b t : Nat} {x0 x1 x2 x3 x4 x5 x6 x7 x8 : Value} (h : w.heap[b]? = some (.cells #[x0, x1, x2, x3, x4, x5, x6, x7, x8] t (0, 0))) :
    w.cell? ⟨b, 0, none⟩ = some x0 ∧ w.cell? ⟨b, 1, none⟩ = some x1 ∧ w.cell? ⟨b, 2, none⟩ = some x2 ∧ w.cell? ⟨b, 3, none⟩ = some x3 ∧ w.cell? ⟨b, 4, none⟩ = some x4 ∧ w.cell? ⟨b, 5, none⟩ = some x5 ∧ w.cell? ⟨b, 6, none⟩ = some x6 ∧ w.cell? ⟨b, 7, none⟩ = some x7 ∧ w.cell? ⟨b, 8, none⟩ = some x8 ∧ (∀ k, w.frozen? ⟨b, k, none⟩ = false) := by
  refine ⟨?_, ?_, ?_, ?_, ?_, ?_, ?_, ?_, ?_, ?_⟩
  all_goals first
    | (intro k; simp [World.frozen?, h])
    | simp [World.cell?, h]

/-- What a step of the model has left. -/
def ModTo (own : Nat → Nat) (o : Nat) (T : Nat → Prop) (w : World) (bm b0 b1 : Nat) (m : Mod) (w' : World) : Prop := ∃ own' a0 a1, RefMod own' o w' bm b0 b1 m a0 a1 ∧ StepS T own own' w w'

theorem mod_tick {own own2 : Nat → Nat} {o : Nat} {T : Nat → Prop} {w w2 : World} {bm b0 b1 : Nat} {m : Mod} {a0 a1 : At} (h : RefMod own2 o w2 bm b0 b1 m a0 a1) (ho : o ≠ 0) (st : StepS T own own2 w w2) (hT : T o) (t : Int) :
    ModTo own o T w bm b0 b1 { m with taken := t } (w2.setCell ⟨bm, 2, none⟩ (.int .i64 t)) := by
  have s3 : StepS T own2 own2 w2 (w2.setCell ⟨bm, 2, none⟩ (.int .i64 t)) := set_stepS (by rw [show (⟨bm, 2, none⟩ : Addr).block = bm from rfl, h.lb]; exact hT)
  have s4 : StepS (fun l => l = o) own2 own2 w2 (w2.setCell ⟨bm, 2, none⟩ (.int .i64 t)) := set_stepS h.lb
  refine ⟨own2, a0, a1, ⟨?_, h.lb, h.c0.keepS s4 (by omega) (by omega), h.c1.keepS s4 (by omega) (by omega)⟩, st.trans s3⟩
  rw [setCell_same h.blk]
  rfl

/-- The cells of one header in the row. -/
theorem hdr_cells {w : World} {g n cap : Nat} {hs : List HdV} {K : HdV} {i : Nat} (h : w.ownsRow 0 tHdr 6 (.slice (some ⟨g, 0, none⟩) n cap) n (hs.flatMap HdV.cells)) (hi : hs[i]? = some K) :
    w.cell? ⟨g, i * 6, none⟩ = some (.int .u64 K.hd.height) ∧ w.cell? ⟨g, i * 6 + 1, none⟩ = some (.int .u64 K.hd.time) ∧ w.cell? ⟨g, i * 6 + 2, none⟩ = some (.bool K.hd.isOpen) ∧ w.cell? ⟨g, i * 6 + 3, none⟩ = some (.int .u64 K.hd.nextRecv) ∧
    w.cell? ⟨g, i * 6 + 4, none⟩ = some K.vp ∧ w.cell? ⟨g, i * 6 + 5, none⟩ = some K.va := by
  have hc := h.cells (g := g) rfl
  have key : ∀ (hs : List HdV) (i j : Nat), hs[i]? = some K → j < 6 → (hs.flatMap HdV.cells)[i * 6 + j]? = K.cells[j]? := by
    intro hs
    induction hs with
    | nil => intro i j hi; simp at hi
    | cons x r ih =>
      intro i j hi hj
      have hl : x.cells.length = 6 := rfl
      cases i with
      | zero =>
        simp at hi
        subst hi
        simp only [List.flatMap_cons, Nat.zero_mul, Nat.zero_add]
        rw [List.getElem?_append_left (by omega)]
      | succ i =>
        simp only [List.getElem?_cons_succ] at hi
        simp only [List.flatMap_cons]
        rw [List.getElem?_append_right (by omega), hl, show (i + 1) * 6 + j - 6 = i * 6 + j from by omega]
        exact ih i j hi hj
  have get : ∀ j v, K.cells[j]? = some v → w.cell? ⟨g, i * 6 + j, none⟩ = some v := by
    intro j v hv
    have hj : j < 6 := by have := (List.getElem?_eq_some_iff.1 hv).1; simpa [HdV.cells] using this
    have := hc (i * 6 + j) v (by rw [key hs i j hi hj]; exact hv)
    rw [Addr.add_lit] at this
    simpa using this
  exact ⟨get 0 _ rfl, get 1 _ rfl, get 2 _ rfl, get 3 _ rfl, get 4 _ rfl, get 5 _ rfl⟩

end Go.Proofs.YtmfdhcnnhlchbaaGreat
