import Derived.Test.YtmfdhcnnhlchbaaC30
import Derived.Test.YtmfdhcnnhlchbaaC31
namespace Go.Proofs.Ytmfdhcnnhlchbaa
open Go.RowKit Go.Maps

section
variable {lab : Nat → Nat} {w : World} {y x : Nat} {m : Mod} {L0 L1 : Lg} {r0 r1 : LgAt} {B c i : Nat} {k n seq : Int} {p : Pk}

set_option maxRecDepth 100000 in
set_option maxHeartbeats 3200000 in
theorem took_ack (h : Wm lab w y x m L0 L1 r0 r1 B) (hc : c < 2) (hl : Lens (lgOf L0 L1 c)) {v : Int} (hn : n = (i : Int) + 1) (hv : (lgOf L0 L1 c).ans[i]? = some v) (hv0 : ¬ v = 0) (hb : (lgOf L0 L1 c).pend[i]? = some true) (hall : ∀ j, j < i → (lgOf L0 L1 c).pend[j]? = some false) :
    Calls Try.prog 12 #[.pointer (some ⟨y, 0, none⟩), .int .i64 c, stepAgg 5 n p, .int .u64 seq] w fun e w' => e = .returned (.bool true) ∧ TookTo lab w y x m B (put0 c L0 ((lgOf L0 L1 c).done i)) (put1 c L1 ((lgOf L0 L1 c).done i)) w' := by
  obtain ⟨w1, hw1⟩ : ∃ w1 : World, w1 = w.alloc (.cells (stepArr 5 n p) tStep) := ⟨_, rfl⟩
  have g1 : w.grownBy w1 none := by rw [hw1]; exact World.grownBy_alloc _ _ _
  have hX1 : w1.heap[w.heap.size]? = some (.cells (stepArr 5 n p) tStep (0, 0)) := by rw [hw1]; exact heap_alloc_new w _
  obtain ⟨x0, x1, x2, x3, x4, x5, x6, x7, x8, xf⟩ := blk9c hX1
  have hzl : w.heap.size < w1.heap.size := blk_lt hX1
  obtain ⟨N, gs, cs, ga, ca, gp, cp, hN, _, _, hgp, S⟩ := (h.grown g1).see hc hl hv hb
  have hpre : ∀ j, j < i → w1.cell? ⟨gp, j, none⟩ = some (.bool false) := by
    intro j hj
    have hp := ((h.grown g1).lg hc).p
    simp only [Lg.vp, hgp] at hp
    exact one_at (enc := Value.bool) hp (hall j hj)
  obtain ⟨ys, ya, yp, _, yf, va, vaf, vp, vpf, hlt, hle⟩ := S
  have hT := set_pend (i := i) (h.grown g1) hc hgp
  have HT : Hid (Wm lab (w1.setCell ⟨gp, i, none⟩ (.bool false)) y x m (put0 c L0 ((lgOf L0 L1 c).done i)) (put1 c L1 ((lgOf L0 L1 c).done i)) r0 r1 B ∧ StepW lab lab w (w1.setCell ⟨gp, i, none⟩ (.bool false))) := ⟨hT.1, (StepW.ofG g1 (fun _ _ => rfl)).trans hT.2⟩
  clear hT
  have hcz : (c : Int) < 2 := by omega
  have hc0 : (0 : Int) ≤ (c : Int) := by omega
  have wn1 : IntKind.i64.wrap n = n := by rw [hn]; exact_mod_cast wrap_i (n := i + 1) (by omega)
  have wn2 : IntKind.i64.wrap (n - 1) = (i : Int) := by rw [hn]; have := wrap_i (n := i) (by omega); simpa using this
  have hi0 : ¬ (i : Int) < 0 := by omega
  have hiN : (i : Int) < (N : Int) := by omega
  have hiN2 : ¬ (N : Int) ≤ (i : Int) := by omega
  have HN : Hid (n = (i : Int) + 1) := hn
  clear hn hN
  have hXx : Hid (∀ j, j < i → w1.cell? ⟨gp, j, none⟩ = some (.bool false)) := hpre
  clear hpre h hall hv hb
  go_enter Try.func12, Try.ntmps12
  go_upto_region 1 with fail
  rw [← hw1]
  clear hw1
  go_wp2_with fail
  go_loopw [212] (fun vk wr => ∃ q : Nat, vk = .int .i64 q ∧ q ≤ i ∧ wr = w1) (fun vk _ => i + 1 - (intV vk).toNat)
  case atStart => exact ⟨0, rfl, by omega, rfl⟩
  case round =>
    obtain ⟨q, rfl, hq, hwr⟩ := hrel
    subst hwr
    by_cases hqi : q < i
    · have hqz : (q : Int) < (i : Int) := by omega
      have pq := hXx.out q hqi
      have qw := wrap_i (n := q + 1) (by omega)
      have hqN : (q : Int) < (N : Int) := by omega
      go_wp2_with fail
      go_roundw
      case rel => exact ⟨q + 1, by simp, by omega, by first | rfl | trivial⟩
      case measure => simp [intV]; omega
    · have e : q = i := by omega
      subst e
      go_wp2_with fail
      go_ret
      exact ⟨rfl, TookTo.mk HT.out.1 HT.out.2⟩

end

end Go.Proofs.Ytmfdhcnnhlchbaa

namespace Go.Proofs.Ytmfdhcnnhlchbaa
open Go.RowKit Go.Maps

section
variable {lab : Nat → Nat} {w : World} {y x : Nat} {m : Mod} {L0 L1 : Lg} {r0 r1 : LgAt} {B c i : Nat} {k n seq : Int} {p : Pk}

set_option maxRecDepth 100000 in
set_option maxHeartbeats 3200000 in
theorem took_back (h : Wm lab w y x m L0 L1 r0 r1 B) (hc : c < 2) (hB : B ≤ 8000000) (hl : Lens (lgOf L0 L1 c)) (hk : k = 6 ∨ k = 7) (hn : n = (i : Int) + 1) (hv : (lgOf L0 L1 c).ans[i]? = some 0) (hb : (lgOf L0 L1 c).pend[i]? = some true) (ho : (chOf m c).hd.isOpen = false) :
    Calls Try.prog 12 #[.pointer (some ⟨y, 0, none⟩), .int .i64 c, stepAgg k n p, .int .u64 seq] w fun e w' => e = .returned (.bool true) ∧ TookTo lab w y x m B (put0 c L0 ((lgOf L0 L1 c).done i)) (put1 c L1 ((lgOf L0 L1 c).done i)) w' := by
  obtain ⟨w1, hw1⟩ : ∃ w1 : World, w1 = w.alloc (.cells (stepArr k n p) tStep) := ⟨_, rfl⟩
  have g1 : w.grownBy w1 none := by rw [hw1]; exact World.grownBy_alloc _ _ _
  have hX1 : w1.heap[w.heap.size]? = some (.cells (stepArr k n p) tStep (0, 0)) := by rw [hw1]; exact heap_alloc_new w _
  obtain ⟨x0, x1, x2, x3, x4, x5, x6, x7, x8, xf⟩ := blk9c hX1
  have hzl : w.heap.size < w1.heap.size := blk_lt hX1
  obtain ⟨N, gs, cs, ga, ca, gp, cp, hN, _, _, hgp, S⟩ := (h.grown g1).see hc hl hv hb
  obtain ⟨ys, ya, yp, _, yf, va, vaf, vp, vpf, hlt, hle⟩ := S
  have hT := set_pend (i := i) (h.grown g1) hc hgp
  obtain ⟨w2, hw2⟩ : ∃ w2, w2 = w1.setCell ⟨gp, i, none⟩ (.bool false) := ⟨_, rfl⟩
  rw [← hw2] at hT
  have HT : Hid (Wm lab w2 y x m (put0 c L0 ((lgOf L0 L1 c).done i)) (put1 c L1 ((lgOf L0 L1 c).done i)) r0 r1 B ∧ StepW lab lab w w2) := ⟨hT.1, (StepW.ofG g1 (fun _ _ => rfl)).trans hT.2⟩
  have hlook := look_at hT.1 hc hB
  obtain ⟨S, eS⟩ : ∃ S, S = chOf m c := ⟨_, rfl⟩
  rw [← eS] at hlook ho
  clear hT eS
  have hcz : (c : Int) < 2 := by omega
  have hc0 : (0 : Int) ≤ (c : Int) := by omega
  have wn1 : IntKind.i64.wrap n = n := by rw [hn]; exact_mod_cast wrap_i (n := i + 1) (by omega)
  have wn2 : IntKind.i64.wrap (n - 1) = (i : Int) := by rw [hn]; have := wrap_i (n := i) (by omega); simpa using this
  have hi0 : ¬ (i : Int) < 0 := by omega
  have hiN : (i : Int) < (N : Int) := by omega
  have hiN2 : ¬ (N : Int) ≤ (i : Int) := by omega
  clear hn hN h hv hb
  rcases hk with rfl | rfl
  all_goals
    go_enter Try.func12, Try.ntmps12
    go_upto_region 1 with fail
    rw [← hw1]
    clear hw1
    go_upto_region 35 with fail
    rw [← hw2]
    clear hw2 ys ya yp yf va vaf vp vpf x0 x1 x2 x3 x4 x5 x6 x7 x8 xf
    obtain ⟨y0, _, _, _, yf⟩ := HT.out.1.cells hc
    have hyl := blk_lt HT.out.1.blk
    go_wp2_with (go_at_call 13; refine hlook.mono ?_; rintro e w3 ⟨kh, al, cl, rfl, g3⟩)
    go_ret
    have g4 := grown_alloc g3 (.cells #[.int .u64 S.hd.height, .int .u64 S.hd.time, .int .u64 kh, .bool false, .int .u64 S.nextSend, .int .u64 S.hd.nextRecv, .slice al S.hd.packets.length cl, .int .u64 S.locked, .int .u64 S.about] 49)
    exact ⟨rfl, TookTo.mk (HT.out.1.grown g4) (HT.out.2.trans (StepW.ofG g4 (fun _ _ => rfl)))⟩

end

end Go.Proofs.Ytmfdhcnnhlchbaa
