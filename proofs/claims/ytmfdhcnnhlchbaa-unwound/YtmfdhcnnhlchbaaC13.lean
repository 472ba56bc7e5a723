import Derived.Test.YtmfdhcnnhlchbaaC11
import Derived.Conc.AtomicLaws2
namespace Go.Proofs.Ytmfdhcnnhlchbaa
open Go.RowKit Go.Maps

theorem run_add {w : World} {x j : Nat} {t : Int} (c : w.cell? ⟨x, j, none⟩ = some (.int .i64 t)) (hf : w.frozen? ⟨x, j, none⟩ = false) (ht : 0 ≤ t ∧ t ≤ 10000000) :
    Sem.run Try.prog (callFunc 38 #[.pointer (some ⟨x, j, none⟩), .int .i64 1]) w = .ok (.value (.int .i64 (t + 1))) (w.setCell ⟨x, j, none⟩ (.int .i64 (t + 1))) := by
  have hb : Try.f38.body.isNone = true := by kernel_rfl
  have hn : (Try.f38.name == "runtime.NumGoroutine") = false := by kernel_rfl
  have hx : Extern.findNext Try.f38 = none := by kernel_rfl
  have he : Extern.find Try.f38 = some (Extern.Atomic.update (Op.intArith .add) .i64 true) := by kernel_rfl
  have hr := Conc.run_add_entry (P := Try.prog) (d := 1) c hf
  rw [show IntKind.i64.wrap (t + 1) = t + 1 from by simp [IntKind.wrap, IntKind.bits, IntKind.signed]; omega] at hr
  unfold callFunc
  simp [Try.func38, hx, he, hr, Result.andThen]
  rw [if_neg (by simpa using hn), if_pos (by simpa using hb)]

set_option maxRecDepth 100000 in
theorem add_any {w : World} {x j : Nat} {t : Int} (c : w.cell? ⟨x, j, none⟩ = some (.int .i64 t)) (hf : w.frozen? ⟨x, j, none⟩ = false) (ht : 0 ≤ t ∧ t ≤ 10000000) :
    Calls Try.prog 24 #[.pointer (some ⟨x, j, none⟩), .int .i64 1] w fun e w' => e = .returned (.int .i64 (t + 1)) ∧ w' = w.setCell ⟨x, j, none⟩ (.int .i64 (t + 1)) := by
  have hr := run_add c hf ht
  go_enter Try.func24, Try.ntmps24
  go_wp2_with fail
  go_ret
  exact ⟨rfl, rfl⟩

end Go.Proofs.Ytmfdhcnnhlchbaa
