import Derived.Test.YtmfdhcnnhlchbaaGreatC08
import Derived.Test.YtmfdhcnnhlchbaaGreatC19
import Derived.Test.YtmfdhcnnhlchbaaGreatC41
namespace Go.Proofs.YtmfdhcnnhlchbaaGreat
open Go.ChangeShapes Go.WideShapes Go.ChangeAt Go.RowKit

set_option maxRecDepth 100000 in
set_option maxHeartbeats 800000 in
theorem sends_nil {w : World} {a : Option Addr} {cap : Nat} : Calls Tryz.prog 3 #[.slice a 0 cap] w fun e w' => e = .returned (.bool true) ∧ w.grownBy w' none := by
  go_enter Tryz.func3, Tryz.ntmps3
  go_wp2_with fail
  refine small_nil.mono ?_
  rintro e w1 ⟨rfl, g1⟩
  go_wp2_with fail
  refine (upto_nil 1).mono ?_
  rintro e w2 ⟨rfl, g2⟩
  go_wp2_with fail
  go_ret
  exact ⟨rfl, grown_trans g1 g2 (fun k e => by cases e)⟩

set_option maxRecDepth 100000 in
set_option maxHeartbeats 800000 in
theorem sends_ok {w : World} {b off cap : Nat} {os : List OpV} (hs : scriptAt w b off os) (hb : b < w.heap.size) (hall : ∀ o ∈ os, OpOk o) (hl : ∀ o ∈ os, o.nl ≤ 140737488355328 ∧ o.nm ≤ 140737488355328) (hlen : os.length ≤ 140737488355328) :
    Calls Tryz.prog 3 #[.slice (some ⟨b, off, none⟩) os.length cap] w fun e w' => e = .returned (.bool true) ∧ w.grownBy w' none := by
  have hsm := small_any (cap := cap) hs hb hlen hl
  have S := step_spec dev_side (fun _ => trivial)
  go_enter Tryz.func3, Tryz.ntmps3
  go_wp2_with fail
  refine hsm.mono ?_
  rintro e w1 ⟨r, rfl, hr, g1⟩
  cases r
  · go_wp2_with fail
    go_ret
    exact ⟨rfl, g1⟩
  · have hs1 : scriptAt w1 b off os := fun i o' e j v hv => (cell_grown g1 hb _).trans (hs i o' e j v hv)
    have hb1 : b < w1.heap.size := by have := g1.size; omega
    have hup := upto_most (cap := cap) dev_side S 1 (by omega) (fun _ h => h) hs1 hb1 hall (hr rfl)
    clear hr hsm hs1 S
    go_wp2_with fail
    refine hup.mono ?_
    rintro e w2 ⟨rfl, g2⟩
    go_wp2_with fail
    go_ret
    exact ⟨rfl, grown_trans g1 g2 (fun k e => by cases e)⟩

theorem sends_own : ownKnob Tryz.prog.godebug = none := by kernel_rfl

theorem below_of {w w' : World} (g : w.grownBy w' none) : Below w.heap.size w w' := ⟨g.os, g.tape, g.output, g.size, fun k hk => g.block k hk (by simp)⟩

set_option maxRecDepth 100000 in
theorem sends_lifted (os : Os) (started : os.Started) (H : Type) (enc : TypeId × Value → H) :
    ReturnsInHanded {} Tryz.checked os 3 .any (Rows.sendsSpec.pre6 enc Tryz.prog Tryz.f3 Rows.sendsRow.domain false) (Rows.sendsSpec.post enc Tryz.prog Tryz.f3 false true false false) := by
  refine returnsInHanded_of_change_sized (C := Tryz.checked) sends_own started (by kernel_rfl) Tryz.func3
    (ChangeSpec.witness6 (enc := enc) (C := Tryz.checked) false ⟨#[], #[.slice none 0 0], []⟩ 8 (by kernel_rfl) (by kernel_rfl) (by kernel_rfl) (by kernel_rfl)) ?_
  intro W base args ds gs before hval0 hW _ hsz0 _
  have hval : ∀ (j : Nat) t v, Tryz.f3.params[j]? = some t → args[j]? = some v → Value.okWide Tryz.prog W .any base t v := hval0
  have hsz : (DataW.weightsEach Tryz.prog (Tryz.f3.params.toList ++ Rows.sendsSpec.plain.varTypes Tryz.prog) (ds ++ gs)).all (· ≤ reachBytes) = true := hsz0
  have hW' := hW
  obtain ⟨p, q, hA0, hV, rfl, _, _⟩ := hW
  have hA : DataW.TrodAll enc Tryz.prog W 0 (fun _ => true) true Tryz.f3.params.toList args.toList ds p := hA0
  rw [Tryz.params3] at hA hval hsz
  obtain ⟨v0, d0, rfl, rfl, h0⟩ := trodAll_one hA
  obtain ⟨rfl, rfl⟩ := trodVars_none hV
  have h0k := h0
  obtain ⟨a0, len0, cap0, rfl⟩ := okWide_slice Tryz.underlying22 (hval 0 22 v0 rfl rfl)
  obtain ⟨fuel, hf⟩ := h0
  have hwt : ∀ m ∈ d0.weights Tryz.prog 22, m ≤ reachBytes := fun m hm => by
    have := List.all_eq_true.1 hsz m (DataW.weights_mem_each (j := 0) (t := 22) (d := d0) rfl rfl m hm)
    simpa using this
  clear hA0 hval0 hsz0
  simp only [List.append_nil] at hW'
  have hlt : ∀ x ∈ p, x.block < W.heap.size := fun x hx => by simpa using hW'.lt x hx
  have key : Calls Tryz.prog 3 #[.slice a0 len0 cap0] W fun e w' => e = .returned (.bool true) ∧ W.grownBy w' none := by
    rcases script_of (x := (d0, p)) (by simpa [Value.cells] using hf) hwt with ⟨a, cap, he⟩ | ⟨b, off, cap, os, he, _, hb, hs, hall, hl, hlen⟩
    · rw [he]; exact sends_nil
    · rw [he]; exact sends_ok hs hb hall hl hlen
  refine key.mono fun e W' ⟨he, hg⟩ => ?_
  subst he
  have hg' := below_of hg
  exact ⟨_, rfl, _, _, _, [], p, [], hW', trodAll_cons_mk (shut_bool Tryz.underlying4 _) trodAll_mk0, trodAll_mk1 (Below.trod laid_out (by kernel_rfl) (of_decide_eq_true (by kernel_rfl)) h0k hg' hlt), rfl, hg'.frame _, fun h => by cases h⟩

theorem sends_holds : Rows.SendsSaid :=
  OpenClaim.holds_of_wide 3 Tryz.f3 rfl rfl rfl rfl rfl rfl rfl ⟨rfl, rfl, rfl, rfl, rfl⟩ rfl rfl rfl rfl rfl (by kernel_rfl) Tryz.func3 (by kernel_rfl)
    (of_decide_eq_true (by kernel_rfl)) (by unfold Func.isWrapper; first | (rw [if_pos (by decide +kernel)]; kernel_rfl) | (rw [if_neg (by decide +kernel)]; exact ⟨rfl, rfl⟩))
    (fun os started H enc _ => sends_lifted os started H enc)

#print axioms sends_holds

end Go.Proofs.YtmfdhcnnhlchbaaGreat
