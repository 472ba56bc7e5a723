import Derived.Test.YtmfdhcnnhlchbaaC39
import Derived.Test.YtmfdhcnnhlchbaaC40
import Derived.Test.YtmfdhcnnhlchbaaRows
import Derived.WalkKit
import Derived.ProofKit
import Derived.OpenShut
import Derived.ChangeMaps5
namespace Go.Proofs.Ytmfdhcnnhlchbaa
open Go.RowKit Go.Maps

theorem kept_wd {lab : Nat → Nat} {w : World} {y x : Nat} {m : Mod} {L0 L1 : Lg} {r0 r1 : LgAt} {N : Nat} (h : Wd lab w y x m L0 L1 r0 r1 N) (hN : N ≤ 100000) (hc : Cons m L0 L1) :
    Calls Try.prog 8 #[.pointer (some ⟨y, 0, none⟩)] w fun e w' => e = .returned (.bool true) ∧ w.grownBy w' none := kept_ok h.mem (by omega) (h.two.lens0 hN) (h.two.lens1 hN) hc

theorem Play.grow {w wr wr' : World} {y x N : Nat} (h : Play w y x N wr) (g : wr.grownBy wr' none) : Play w y x N wr' := by
  obtain ⟨lab, m, L0, L1, r0, r1, hd, hl, hb, hc⟩ := h
  exact ⟨lab, m, L0, L1, r0, r1, hd.grown g, hl, hb.grown g hb.size (fun k e => by cases e), hc⟩

set_option maxRecDepth 100000 in
set_option maxHeartbeats 1600000 in
theorem conserved_ok (s : ByteArray) (w : World) : Calls Try.prog 4 #[.string s] w fun e w' => e = .returned (.bool true) ∧ Below w.heap.size w w' := by
  obtain ⟨n, hn⟩ : ∃ n, n = s.size := ⟨_, rfl⟩
  have hn' : s.size = n := hn.symm
  by_cases hs : n ≤ 16384
  · have hsz : ¬ (16384 : Int) < (n : Int) := by omega
    have hbeg := begin_wd (w := w)
    have HN : Hid (n = s.size ∧ n ≤ 16384) := ⟨hn, hs⟩
    clear hn hs
    go_enter Try.func4, Try.ntmps4
    go_wp2_with (first
      | (go_at_call 7; refine hbeg.mono ?_; rintro e w1 ⟨x, y, lab, rfl, hd, hl0, g1⟩)
      | (go_at_call 8; refine (kept_wd hd (by omega) cons_new).mono ?_; rintro e w2 ⟨rfl, g2⟩))
    have HP0 : Hid (Play w y x 0 w2) := Play.grow ⟨lab, _, _, _, _, _, hd, hl0, ⟨g1.os, g1.tape, g1.output, g1.size, fun k hk => g1.block k hk (by simp)⟩, cons_new⟩ g2
    clear hd hl0 g1 hbeg g2
    go_loopw [5] (fun vi wr => ∃ q : Nat, vi = .int .i64 ((4 * q : Nat) : Int) ∧ 4 * q ≤ n ∧ Play w y x q wr) (fun vi _ => n + 4 - (intV vi).toNat)
    case atStart => exact ⟨0, rfl, by omega, HP0.out⟩
    case round =>
      obtain ⟨q, rfl, hq, hP⟩ := hrel
      have hle := HN.out.2
      obtain ⟨e, he⟩ : ∃ e, e = 4 * q := ⟨_, rfl⟩
      rw [← he]
      have w3 : IntKind.i64.wrap ((e : Int) + 3) = (e : Int) + 3 := by have := wrap_i (n := e + 3) (by omega); simpa using this
      have w4 : IntKind.i64.wrap ((e : Int) + 4) = (e : Int) + 4 := by have := wrap_i (n := e + 4) (by omega); simpa using this
      by_cases hlt : e + 3 < n
      · have hltz : (e : Int) + 3 < (n : Int) := by omega
        obtain ⟨lab', m', L0, L1, r0, r1, hd, hl, hb, hcn⟩ := hP
        have hmv := move_ok hd (by omega) (s.extract e (e + 4)) (by rw [ByteArray.size_extract, ← HN.out.1]; omega)
        have HH : Hid (e = 4 * q ∧ (∀ k, k < w.heap.size → lab' k = 0) ∧ Below w.heap.size w wr ∧ Cons m' L0 L1) := ⟨he, hl, hb, hcn⟩
        have hq5 : q + 1 ≤ 100000 := by omega
        clear hd hl hb he hcn
        go_wp2_with (first
          | (go_at_call 9; refine hmv.mono ?_; rintro e2 w2' ⟨rfl, hto⟩; obtain ⟨lab2, m2, M0, M1, s0, s1, hd2, st2, hcn2⟩ := id hto)
          | (go_at_call 8; refine (kept_wd hd2 hq5 (hcn2 HH.out.2.2.2)).mono ?_; rintro e3 w3' ⟨rfl, g3⟩))
        go_roundw
        case rel => exact ⟨q + 1, by have := HH.out.1; simp; omega, by have := HH.out.1; omega, (Play.step HH.out.2.1 HH.out.2.2.1 HH.out.2.2.2 hto).grow g3⟩
        case measure => have := HH.out.1; simp [intV]; omega
      · have hltz : ¬ (e : Int) + 3 < (n : Int) := by omega
        have HP : Hid (Below w.heap.size w wr) := by obtain ⟨_, _, _, _, _, _, _, _, hb, _⟩ := hP; exact hb
        clear hP he
        go_wp2_with fail
        go_ret
        exact ⟨rfl, HP.out⟩
  · have hsz : (16384 : Int) < (n : Int) := by omega
    clear hn
    go_enter Try.func4, Try.ntmps4
    go_wp2_with fail
    go_ret
    exact ⟨rfl, Below.refl _ _⟩

end Go.Proofs.Ytmfdhcnnhlchbaa

namespace Go.Proofs.Ytmfdhcnnhlchbaa
open Go.ChangeShapes Go.WideShapes Go.ChangeAt Go.RowKit
open Go.ChangeMaps (open_string shut_string)

theorem conserved_own : ownKnob Try.prog.godebug = none := by kernel_rfl

set_option maxRecDepth 100000 in
theorem conserved_lifted (walk : ∀ (s : ByteArray) (w : World), Calls Try.prog 4 #[.string s] w fun e w' => e = .returned (.bool true) ∧ Below w.heap.size w w') (os : Os) (started : os.Started) (H : Type) (enc : TypeId × Value → H) :
    ReturnsInHanded {} Try.checked os 4 .any (Rows.conservedSpec.pre6 enc Try.prog Try.f4 Rows.conservedRow.domain false) (Rows.conservedSpec.post enc Try.prog Try.f4 false true false false) := by
  refine returnsInHanded_of_change (C := Try.checked) conserved_own started (by kernel_rfl) Try.func4
    (ChangeSpec.witness6 (enc := enc) (C := Try.checked) false ⟨#[], #[.string ⟨#[]⟩], []⟩ 8 (by kernel_rfl) (by kernel_rfl) (by kernel_rfl) (by kernel_rfl)) ?_
  intro W base args ds gs before hval0 hW _ _
  have hval : ∀ (j : Nat) t v, Try.f4.params[j]? = some t → args[j]? = some v → Value.okWide Try.prog W .any base t v := hval0
  have hW' := hW
  obtain ⟨p, q, hA0, hV, rfl, _, _⟩ := hW
  have hA : DataW.TrodAll enc Try.prog W 0 (fun _ => true) true Try.f4.params.toList args.toList ds p := hA0
  rw [Try.params4] at hA hval
  obtain ⟨v0, d0, rfl, rfl, h0⟩ := trodAll_one hA
  obtain ⟨rfl, rfl⟩ := trodVars_none hV
  obtain ⟨s, rfl, rfl, rfl, hs⟩ := open_string Try.underlying9 (hval 0 9 v0 rfl rfl) h0
  clear hA0 hval0
  simp only [List.append_nil] at hW'
  refine (walk s W).mono fun e W' ⟨he, hg⟩ => ?_
  subst he
  exact ⟨_, rfl, _, _, _, [], [], [], hW', trodAll_cons_mk (shut_bool Try.underlying4 _) trodAll_mk0, trodAll_mk1 (shut_string Try.underlying9 hs), rfl, hg.frame _, fun h => by cases h⟩

theorem conserved_over (walk : ∀ (s : ByteArray) (w : World), Calls Try.prog 4 #[.string s] w fun e w' => e = .returned (.bool true) ∧ Below w.heap.size w w') : Rows.conservedRow.holds Try.pinned (OpenSpec.ofChange Rows.conservedSpec) :=
  OpenClaim.holds_of_wide 4 Try.f4 rfl rfl rfl rfl rfl rfl rfl ⟨rfl, rfl, rfl, rfl, rfl⟩ rfl rfl rfl rfl rfl (by kernel_rfl) Try.func4 (by kernel_rfl)
    (of_decide_eq_true (by kernel_rfl)) (by unfold Func.isWrapper; first | (rw [if_pos (by decide +kernel)]; kernel_rfl) | (rw [if_neg (by decide +kernel)]; exact ⟨rfl, rfl⟩))
    (fun os started H enc _ => conserved_lifted walk os started H enc)

end Go.Proofs.Ytmfdhcnnhlchbaa

namespace Go.Proofs.Ytmfdhcnnhlchbaa

theorem conserved_holds : Rows.ConservedSaid := conserved_over conserved_ok

#print axioms conserved_holds

end Go.Proofs.Ytmfdhcnnhlchbaa
