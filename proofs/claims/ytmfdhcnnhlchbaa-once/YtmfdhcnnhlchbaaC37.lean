import Derived.Test.YtmfdhcnnhlchbaaC33
import Derived.Test.YtmfdhcnnhlchbaaC34
import Derived.Test.YtmfdhcnnhlchbaaC36
import Derived.Test.YtmfdhcnnhlchbaaC30
import Derived.ChangeKeysEq
namespace Go.Proofs.Ytmfdhcnnhlchbaa
open Go.RowKit Go.Maps

section
variable {lab : Nat → Nat} {w : World} {y x : Nat} {m : Mod} {L0 L1 L0' L1' : Lg} {r0 r1 : LgAt} {B c : Nat} {k n seq : Int} {p : Pk}

theorem took_all (h : Wm lab w y x m L0 L1 r0 r1 B) (hc : c < 2) (hB : B ≤ 8000000) (h0 : Lens L0) (h1 : Lens L1) (ht : Took c k n p seq m L0 L1 L0' L1') :
    Calls Try.prog 12 #[.pointer (some ⟨y, 0, none⟩), .int .i64 c, stepAgg k n p, .int .u64 seq] w fun e w' => e = .returned (.bool true) ∧ TookTo lab w y x m B L0' L1' w' := by
  have hl : ∀ d : Nat, Lens (lgOf L0 L1 d) := fun d => by
    by_cases e : d = 0
    · simp only [lgOf, if_pos e]; exact h0
    · simp only [lgOf, if_neg e]; exact h1
  cases ht with
  | send hk hs => subst hk; exact took_send h hc (hl c) hs
  | other e1 e4 e5 e6 e7 => exact (took_other e1 e4 e5 e6 e7).mono fun e w' ⟨he, g⟩ => ⟨he, TookTo.mk (h.grown g) (StepW.ofG g (fun _ _ => rfl))⟩
  | recv o i q hk ho hn hq hp ha hb => subst hk; exact took_recv h ho (hl o) hn hq hp ha hb
  | ack i v hk hn hp ha hv hb => subst hk; exact took_ack h hc (hl c) hn ha hv hp hb
  | back i hk hn hp ha ho => exact took_back h hc hB (hl c) hk hn ha hp ho

end

end Go.Proofs.Ytmfdhcnnhlchbaa

namespace Go.Proofs.Ytmfdhcnnhlchbaa
open Go.RowKit Go.Maps

theorem info64 : ∃ i, Try.prog.info? 28 = some i ∧ i.size = 1 := by
  obtain ⟨i, h, _, s, _⟩ := info_parts (show (Try.prog.info? 28).map (fun i => (i.zero, i.size, i.bytes)) = some (some (.int .u64 0), 1, 8) by kernel_rfl)
  exact ⟨i, h, s⟩

theorem plain64 : Try.prog.plainKey 28 = true := by kernel_rfl

theorem cells64 : Try.prog.cellsOf 28 = 1 := by kernel_rfl

theorem eq64 (d : Nat) (a b : Int) (w : World) : (Op.equalIn (d + 1) 28 (.int .u64 a) (.int .u64 b)).run Try.prog w = .ok (a == b) w := by
  simp [Op.equalIn, run_underlying Try.underlying28]

theorem eq_arr (a b a' b' : Int) (w : World) : (Op.equalIn 10000 56 (.agg #[.int .u64 a, .int .u64 b]) (.agg #[.int .u64 a', .int .u64 b'])).run Try.prog w = .ok (a == a' && b == b') w := by
  obtain ⟨i, hi, _⟩ := info64
  rw [show (10000 : Nat) = 9999 + 1 from rfl, run_equalIn_array _ 9999 _ _ Try.underlying56 hi, cells64]
  have p0 : ∀ x y : Int, (part 28 #[.int .u64 x, .int .u64 y] 0).run Try.prog w = .ok (.int .u64 x) w := fun x y => run_part_plain w plain64 (by simp)
  have p1 : ∀ x y : Int, (part 28 #[.int .u64 x, .int .u64 y] 1).run Try.prog w = .ok (.int .u64 y) w := fun x y => run_part_plain w plain64 (by simp)
  simp only [List.range_succ, List.range_zero, List.nil_append, List.cons_append, Op.eqItems, Nat.mul_one, Sem.run_bind, p0, Result.andThen_ok, eq64 9998]
  cases h : (a == a')
  · simp
  · cases h2 : (b == b') <;> simp [p1, eq64 9998, h2]

end Go.Proofs.Ytmfdhcnnhlchbaa
