import Derived.Test.YtmfdhcnnhlchbaaC38
import Derived.Test.YtmfdhcnnhlchbaaRows
import Derived.WalkKit
import Derived.ProofKit
import Derived.OpenShut
import Derived.ChangeMaps5
namespace Go.Proofs.Ytmfdhcnnhlchbaa
open Go.RowKit Go.Maps

/-- A run of the law's world. -/
def Play (w : World) (y x N : Nat) (wr : World) : Prop := ∃ lab m L0 L1 r0 r1, Wd lab wr y x m L0 L1 r0 r1 N ∧ (∀ k, k < w.heap.size → lab k = 0) ∧ Below w.heap.size w wr

theorem Play.step {w wr w' : World} {y x N : Nat} {lab : Nat → Nat} (hl : ∀ k, k < w.heap.size → lab k = 0) (hb : Below w.heap.size w wr) (h : MoveTo lab wr y x (N + 1) w') : Play w y x (N + 1) w' := by
  obtain ⟨lab', m', L0', L1', r0', r1', hd, st⟩ := h
  exact ⟨lab', m', L0', L1', r0', r1', hd, fun k hk => (st.label k (Nat.lt_of_lt_of_le hk hb.size)).trans (hl k hk), hb.trans (st.below hb.size hl)⟩

def Played (w : World) (e : Ending) (w' : World) : Prop := ∃ x y N, e = .returned (.tuple #[.pointer (some ⟨y, 0, none⟩), .bool true]) ∧ N ≤ 4096 ∧ Play w y x N w'

theorem Played.mk {w : World} {e : Ending} {w' : World} {x y N : Nat} (h : e = .returned (.tuple #[.pointer (some ⟨y, 0, none⟩), .bool true])) (h1 : N ≤ 4096) (h2 : Play w y x N w') : Played w e w' := ⟨x, y, N, h, h1, h2⟩

set_option maxRecDepth 100000 in
set_option maxHeartbeats 1600000 in
theorem play_ok {w : World} (s : ByteArray) (hs : s.size ≤ 16384) : Calls Try.prog 6 #[.string s] w fun e w' => Played w e w' := by
  obtain ⟨n, hn⟩ : ∃ n, n = s.size := ⟨_, rfl⟩
  have hn' : s.size = n := hn.symm
  have hbeg := begin_wd (w := w)
  have HN : Hid (n = s.size ∧ n ≤ 16384) := ⟨hn, by omega⟩
  clear hn hs
  go_enter Try.func6, Try.ntmps6
  go_wp2_with (go_at_call 7; refine hbeg.mono ?_; rintro e w1 ⟨x, y, lab, rfl, hd, hl0, g1⟩)
  have HP0 : Hid (Play w y x 0 w1) := ⟨lab, _, _, _, _, _, hd, hl0, ⟨g1.os, g1.tape, g1.output, g1.size, fun k hk => g1.block k hk (by simp)⟩⟩
  clear hd hl0 g1 hbeg
  go_loopw [6] (fun vi wr => ∃ q : Nat, vi = .int .i64 ((4 * q : Nat) : Int) ∧ 4 * q ≤ n ∧ Play w y x q wr) (fun vi _ => n + 4 - (intV vi).toNat)
  case atStart => exact ⟨0, rfl, by omega, HP0.out⟩
  case round =>
    obtain ⟨q, rfl, hq, hP⟩ := hrel
    have hle := HN.out.2
    obtain ⟨e, he⟩ : ∃ e, e = 4 * q := ⟨_, rfl⟩
    rw [← he]
    have w3 : IntKind.i64.wrap ((e : Int) + 3) = (e : Int) + 3 := by have := wrap_i (n := e + 3) (by omega); simpa using this
    have w4 : IntKind.i64.wrap ((e : Int) + 4) = (e : Int) + 4 := by have := wrap_i (n := e + 4) (by omega); simpa using this
    by_cases hlt : e + 3 < n
    · have hltz : (e : Int) + 3 < (n : Int) := by omega
      obtain ⟨lab', m', L0, L1, r0, r1, hd, hl, hb⟩ := hP
      have hmv := move_ok hd (by omega) (s.extract e (e + 4)) (by rw [ByteArray.size_extract, ← HN.out.1]; omega)
      have HH : Hid (e = 4 * q ∧ (∀ k, k < w.heap.size → lab' k = 0) ∧ Below w.heap.size w wr) := ⟨he, hl, hb⟩
      clear hd hl hb he
      go_wp2_with (go_at_call 9; refine hmv.mono ?_; rintro e2 w2 ⟨rfl, hto⟩)
      go_roundw
      case rel => exact ⟨q + 1, by have := HH.out.1; simp; omega, by have := HH.out.1; omega, Play.step HH.out.2.1 HH.out.2.2 hto⟩
      case measure => have := HH.out.1; simp [intV]; omega
    · have hltz : ¬ (e : Int) + 3 < (n : Int) := by omega
      have HP : Hid (Play w y x q wr ∧ q ≤ 4096) := ⟨hP, by omega⟩
      clear hP he
      go_wp2_with fail
      go_ret2
      exact Played.mk rfl HP.out.2 HP.out.1

set_option maxRecDepth 100000 in
set_option maxHeartbeats 1600000 in
theorem once_ok (s : ByteArray) (w : World) : Calls Try.prog 3 #[.string s] w fun e w' => e = .returned (.bool true) ∧ Below w.heap.size w w' := by
  obtain ⟨n, hn⟩ : ∃ n, n = s.size := ⟨_, rfl⟩
  have hn' : s.size = n := hn.symm
  by_cases hs : n ≤ 16384
  · have hsz : ¬ (16384 : Int) < (n : Int) := by omega
    have hp := play_ok (w := w) s (by omega)
    clear hn
    go_enter Try.func3, Try.ntmps3
    go_wp2_with (go_at_call 6; refine hp.mono ?_; rintro e w1 ⟨x, y, N, rfl, hN, lab, m, L0, L1, r0, r1, hd, hl, hb⟩)
    go_ret
    exact ⟨rfl, hb⟩
  · have hsz : (16384 : Int) < (n : Int) := by omega
    clear hn
    go_enter Try.func3, Try.ntmps3
    go_wp2_with fail
    go_ret
    exact ⟨rfl, Below.refl _ _⟩

end Go.Proofs.Ytmfdhcnnhlchbaa

namespace Go.Proofs.Ytmfdhcnnhlchbaa
open Go.ChangeShapes Go.WideShapes Go.ChangeAt Go.RowKit
open Go.ChangeMaps (open_string shut_string)

theorem once_own : ownKnob Try.prog.godebug = none := by kernel_rfl

set_option maxRecDepth 100000 in
theorem once_lifted (walk : ∀ (s : ByteArray) (w : World), Calls Try.prog 3 #[.string s] w fun e w' => e = .returned (.bool true) ∧ Below w.heap.size w w') (os : Os) (started : os.Started) (H : Type) (enc : TypeId × Value → H) :
    ReturnsInHanded {} Try.checked os 3 .any (Rows.onceSpec.pre6 enc Try.prog Try.f3 Rows.onceRow.domain false) (Rows.onceSpec.post enc Try.prog Try.f3 false true false false) := by
  refine returnsInHanded_of_change (C := Try.checked) once_own started (by kernel_rfl) Try.func3
    (ChangeSpec.witness6 (enc := enc) (C := Try.checked) false ⟨#[], #[.string ⟨#[]⟩], []⟩ 8 (by kernel_rfl) (by kernel_rfl) (by kernel_rfl) (by kernel_rfl)) ?_
  intro W base args ds gs before hval0 hW _ _
  have hval : ∀ (j : Nat) t v, Try.f3.params[j]? = some t → args[j]? = some v → Value.okWide Try.prog W .any base t v := hval0
  have hW' := hW
  obtain ⟨p, q, hA0, hV, rfl, _, _⟩ := hW
  have hA : DataW.TrodAll enc Try.prog W 0 (fun _ => true) true Try.f3.params.toList args.toList ds p := hA0
  rw [Try.params3] at hA hval
  obtain ⟨v0, d0, rfl, rfl, h0⟩ := trodAll_one hA
  obtain ⟨rfl, rfl⟩ := trodVars_none hV
  obtain ⟨s, rfl, rfl, rfl, hs⟩ := open_string Try.underlying9 (hval 0 9 v0 rfl rfl) h0
  clear hA0 hval0
  simp only [List.append_nil] at hW'
  refine (walk s W).mono fun e W' ⟨he, hg⟩ => ?_
  subst he
  exact ⟨_, rfl, _, _, _, [], [], [], hW', trodAll_cons_mk (shut_bool Try.underlying4 _) trodAll_mk0, trodAll_mk1 (shut_string Try.underlying9 hs), rfl, hg.frame _, fun h => by cases h⟩

theorem once_over (walk : ∀ (s : ByteArray) (w : World), Calls Try.prog 3 #[.string s] w fun e w' => e = .returned (.bool true) ∧ Below w.heap.size w w') : Rows.onceRow.holds Try.pinned (OpenSpec.ofChange Rows.onceSpec) :=
  OpenClaim.holds_of_wide 3 Try.f3 rfl rfl rfl rfl rfl rfl rfl ⟨rfl, rfl, rfl, rfl, rfl⟩ rfl rfl rfl rfl rfl (by kernel_rfl) Try.func3 (by kernel_rfl)
    (of_decide_eq_true (by kernel_rfl)) (by unfold Func.isWrapper; first | (rw [if_pos (by decide +kernel)]; kernel_rfl) | (rw [if_neg (by decide +kernel)]; exact ⟨rfl, rfl⟩))
    (fun os started H enc _ => once_lifted walk os started H enc)

end Go.Proofs.Ytmfdhcnnhlchbaa

namespace Go.Proofs.Ytmfdhcnnhlchbaa

theorem once_holds : Rows.OnceSaid := once_over once_ok

#print axioms once_holds

end Go.Proofs.Ytmfdhcnnhlchbaa
