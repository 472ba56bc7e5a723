import Derived.Test.YtmfdhcnnhlchbabC21
import Derived.Deep.CutBlock
namespace Go.Proofs.Ytmfdhcnnhlchbab
open Go.RowKit Go.Maps

def reg7 (f : Func) : Code := seqL (seqL (seqR (seqR (seqR (seqR (kBody f))))))
def regOps : Code → Array Oper
  | .region _ ops _ => ops
  | _ => #[]
def ops7 (f : Func) : Array Oper := regOps (reg7 f)

/-- Call 'i' of the literal, and its element. -/
def PairOk (i : Nat) : Prop := ∃ (o1 o2 : Oper) (d : Dos) (f : FuncId) (args : Array Value), (ops7 Try.f4).toList.drop (2 * i) = o1 :: o2 :: (ops7 Try.f4).toList.drop (2 * i + 2) ∧ dosB[i]? = some d ∧ o1.guard = none ∧ o2.guard = none ∧ o1.dst = some (47 + 2 * i) ∧ o2.dst = some (48 + 2 * i) ∧
  (∀ (a : Act) (w : World), (execOp a.eval o1).run Try.prog w = .ok (.enter f args) w) ∧ (∀ w : World, Calls Try.prog f args w fun e w' => e = .returned (stepAgg d.k d.n d.p) ∧ w.grownBy w' none) ∧
  (∀ (a : Act) (w : World), a.tmps.getD (47 + 2 * i) undef = stepAgg d.k d.n d.p → (execOp a.eval o2).run Try.prog w = .ok (.value (.agg d.arr)) w)

set_option maxRecDepth 100000

theorem pr0 : PairOk 0 := ⟨_, _, ⟨2, 2, 0, pk0, 0, 1⟩, 14, #[.int .i64 2, .int .u64 0], rfl, rfl, rfl, rfl, rfl, rfl, fun a w => by kernel_rfl, fun w => step_plain 2 0, fun a w h => by
  refine Eq.trans (b := (do pure (Next.value (← Instr.build 61 #[(0, .int .i64 2), (1, a.tmps.getD 47 undef), (2, .int .u64 0), (3, .int .i64 1)])) : Sem Next).run Try.prog w) (by kernel_rfl) ?_
  rw [h]
  kernel_rfl⟩

theorem pr1 : PairOk 1 := ⟨_, _, ⟨(-1), 2, 0, pk0, 0, 1⟩, 14, #[.int .i64 2, .int .u64 0], rfl, rfl, rfl, rfl, rfl, rfl, fun a w => by kernel_rfl, fun w => step_plain 2 0, fun a w h => by
  refine Eq.trans (b := (do pure (Next.value (← Instr.build 61 #[(0, .int .i64 (-1)), (1, a.tmps.getD 49 undef), (2, .int .u64 0), (3, .int .i64 1)])) : Sem Next).run Try.prog w) (by kernel_rfl) ?_
  rw [h]
  kernel_rfl⟩

theorem pr2 : PairOk 2 := ⟨_, _, ⟨0, 0, 0, pk0, 0, 16⟩, 14, #[.int .i64 0, .int .u64 0], rfl, rfl, rfl, rfl, rfl, rfl, fun a w => by kernel_rfl, fun w => step_plain 0 0, fun a w h => by
  refine Eq.trans (b := (do pure (Next.value (← Instr.build 61 #[(0, .int .i64 0), (1, a.tmps.getD 51 undef), (2, .int .u64 0), (3, .int .i64 16)])) : Sem Next).run Try.prog w) (by kernel_rfl) ?_
  rw [h]
  kernel_rfl⟩

theorem pr3 : PairOk 3 := ⟨_, _, ⟨0, 10, 0, pk0, 0, 16⟩, 14, #[.int .i64 10, .int .u64 0], rfl, rfl, rfl, rfl, rfl, rfl, fun a w => by kernel_rfl, fun w => step_plain 10 0, fun a w h => by
  refine Eq.trans (b := (do pure (Next.value (← Instr.build 61 #[(0, .int .i64 0), (1, a.tmps.getD 53 undef), (2, .int .u64 0), (3, .int .i64 16)])) : Sem Next).run Try.prog w) (by kernel_rfl) ?_
  rw [h]
  kernel_rfl⟩

theorem pr4 : PairOk 4 := ⟨_, _, ⟨0, 1, 0, ⟨0, 3, 0, 0, 1, 1, 0⟩, 0, 3⟩, 15, #[.int .i64 3, .int .i64 0, .int .i64 0, .int .u64 1, .int .u64 1, .int .u64 0], rfl, rfl, rfl, rfl, rfl, rfl, fun a w => by kernel_rfl, fun w => packet_any 3 0 0 1 1 0, fun a w h => by
  refine Eq.trans (b := (do pure (Next.value (← Instr.build 61 #[(0, .int .i64 0), (1, a.tmps.getD 55 undef), (2, .int .u64 0), (3, .int .i64 3)])) : Sem Next).run Try.prog w) (by kernel_rfl) ?_
  rw [h]
  kernel_rfl⟩

theorem pr5 : PairOk 5 := ⟨_, _, ⟨0, 1, 0, ⟨0, (-1), 0, 9, 0, 0, 0⟩, 0, 3⟩, 15, #[.int .i64 (-1), .int .i64 0, .int .i64 9, .int .u64 0, .int .u64 0, .int .u64 0], rfl, rfl, rfl, rfl, rfl, rfl, fun a w => by kernel_rfl, fun w => packet_any (-1) 0 9 0 0 0, fun a w h => by
  refine Eq.trans (b := (do pure (Next.value (← Instr.build 61 #[(0, .int .i64 0), (1, a.tmps.getD 57 undef), (2, .int .u64 0), (3, .int .i64 3)])) : Sem Next).run Try.prog w) (by kernel_rfl) ?_
  rw [h]
  kernel_rfl⟩

theorem pr6 : PairOk 6 := ⟨_, _, ⟨0, 1, 0, ⟨0, 0, 0, 2, 0, 0, 0⟩, 0, 4⟩, 15, #[.int .i64 0, .int .i64 0, .int .i64 2, .int .u64 0, .int .u64 0, .int .u64 0], rfl, rfl, rfl, rfl, rfl, rfl, fun a w => by kernel_rfl, fun w => packet_any 0 0 2 0 0 0, fun a w h => by
  refine Eq.trans (b := (do pure (Next.value (← Instr.build 61 #[(0, .int .i64 0), (1, a.tmps.getD 59 undef), (2, .int .u64 0), (3, .int .i64 4)])) : Sem Next).run Try.prog w) (by kernel_rfl) ?_
  rw [h]
  kernel_rfl⟩

theorem pr7 : PairOk 7 := ⟨_, _, ⟨0, 1, 0, ⟨0, 0, 0, 0, 0, 0, 0⟩, 0, 5⟩, 15, #[.int .i64 0, .int .i64 0, .int .i64 0, .int .u64 0, .int .u64 0, .int .u64 0], rfl, rfl, rfl, rfl, rfl, rfl, fun a w => by kernel_rfl, fun w => packet_any 0 0 0 0 0 0, fun a w h => by
  refine Eq.trans (b := (do pure (Next.value (← Instr.build 61 #[(0, .int .i64 0), (1, a.tmps.getD 61 undef), (2, .int .u64 0), (3, .int .i64 5)])) : Sem Next).run Try.prog w) (by kernel_rfl) ?_
  rw [h]
  kernel_rfl⟩

theorem pr8 : PairOk 8 := ⟨_, _, ⟨0, 1, 0, ⟨0, 0, 0, 0, 101, 0, 0⟩, 0, 6⟩, 15, #[.int .i64 0, .int .i64 0, .int .i64 0, .int .u64 101, .int .u64 0, .int .u64 0], rfl, rfl, rfl, rfl, rfl, rfl, fun a w => by kernel_rfl, fun w => packet_any 0 0 0 101 0 0, fun a w h => by
  refine Eq.trans (b := (do pure (Next.value (← Instr.build 61 #[(0, .int .i64 0), (1, a.tmps.getD 63 undef), (2, .int .u64 0), (3, .int .i64 6)])) : Sem Next).run Try.prog w) (by kernel_rfl) ?_
  rw [h]
  kernel_rfl⟩

theorem pr9 : PairOk 9 := ⟨_, _, ⟨0, 1, 0, ⟨0, 0, 0, 1, 1, 0, 0⟩, 0, 6⟩, 15, #[.int .i64 0, .int .i64 0, .int .i64 1, .int .u64 1, .int .u64 0, .int .u64 0], rfl, rfl, rfl, rfl, rfl, rfl, fun a w => by kernel_rfl, fun w => packet_any 0 0 1 1 0 0, fun a w h => by
  refine Eq.trans (b := (do pure (Next.value (← Instr.build 61 #[(0, .int .i64 0), (1, a.tmps.getD 65 undef), (2, .int .u64 0), (3, .int .i64 6)])) : Sem Next).run Try.prog w) (by kernel_rfl) ?_
  rw [h]
  kernel_rfl⟩

theorem pr10 : PairOk 10 := ⟨_, _, ⟨0, 1, 0, ⟨0, 0, 0, 0, 1, 0, 0⟩, 0, 7⟩, 15, #[.int .i64 0, .int .i64 0, .int .i64 0, .int .u64 1, .int .u64 0, .int .u64 0], rfl, rfl, rfl, rfl, rfl, rfl, fun a w => by kernel_rfl, fun w => packet_any 0 0 0 1 0 0, fun a w h => by
  refine Eq.trans (b := (do pure (Next.value (← Instr.build 61 #[(0, .int .i64 0), (1, a.tmps.getD 67 undef), (2, .int .u64 0), (3, .int .i64 7)])) : Sem Next).run Try.prog w) (by kernel_rfl) ?_
  rw [h]
  kernel_rfl⟩

theorem pr11 : PairOk 11 := ⟨_, _, ⟨0, 1, 0, ⟨0, 0, 1, 0, 60, 3, 0⟩, 1, 0⟩, 15, #[.int .i64 0, .int .i64 1, .int .i64 0, .int .u64 60, .int .u64 3, .int .u64 0], rfl, rfl, rfl, rfl, rfl, rfl, fun a w => by kernel_rfl, fun w => packet_any 0 1 0 60 3 0, fun a w h => by
  refine Eq.trans (b := (do pure (Next.value (← Instr.build 61 #[(0, .int .i64 0), (1, a.tmps.getD 69 undef), (2, .int .u64 1), (3, .int .i64 0)])) : Sem Next).run Try.prog w) (by kernel_rfl) ?_
  rw [h]
  kernel_rfl⟩

theorem pr12 : PairOk 12 := ⟨_, _, ⟨0, 1, 0, ⟨0, 0, 7, 0, 40, 0, 50⟩, 2, 0⟩, 15, #[.int .i64 0, .int .i64 7, .int .i64 0, .int .u64 40, .int .u64 0, .int .u64 50], rfl, rfl, rfl, rfl, rfl, rfl, fun a w => by kernel_rfl, fun w => packet_any 0 7 0 40 0 50, fun a w h => by
  refine Eq.trans (b := (do pure (Next.value (← Instr.build 61 #[(0, .int .i64 0), (1, a.tmps.getD 71 undef), (2, .int .u64 2), (3, .int .i64 0)])) : Sem Next).run Try.prog w) (by kernel_rfl) ?_
  rw [h]
  kernel_rfl⟩

theorem pr13 : PairOk 13 := ⟨_, _, ⟨0, 1, 0, ⟨0, 0, 1, 0, 1, 3, 0⟩, 0, 6⟩, 15, #[.int .i64 0, .int .i64 1, .int .i64 0, .int .u64 1, .int .u64 3, .int .u64 0], rfl, rfl, rfl, rfl, rfl, rfl, fun a w => by kernel_rfl, fun w => packet_any 0 1 0 1 3 0, fun a w h => by
  refine Eq.trans (b := (do pure (Next.value (← Instr.build 61 #[(0, .int .i64 0), (1, a.tmps.getD 73 undef), (2, .int .u64 0), (3, .int .i64 6)])) : Sem Next).run Try.prog w) (by kernel_rfl) ?_
  rw [h]
  kernel_rfl⟩

theorem pr14 : PairOk 14 := ⟨_, _, ⟨0, 1, 0, ⟨0, 1, 2, 0, 5, 2, 99⟩, 3, 0⟩, 15, #[.int .i64 1, .int .i64 2, .int .i64 0, .int .u64 5, .int .u64 2, .int .u64 99], rfl, rfl, rfl, rfl, rfl, rfl, fun a w => by kernel_rfl, fun w => packet_any 1 2 0 5 2 99, fun a w h => by
  refine Eq.trans (b := (do pure (Next.value (← Instr.build 61 #[(0, .int .i64 0), (1, a.tmps.getD 75 undef), (2, .int .u64 3), (3, .int .i64 0)])) : Sem Next).run Try.prog w) (by kernel_rfl) ?_
  rw [h]
  kernel_rfl⟩

theorem pr15 : PairOk 15 := ⟨_, _, ⟨0, 1, 0, ⟨0, 1, 2, 0, 5, 9, 99⟩, 4, 0⟩, 15, #[.int .i64 1, .int .i64 2, .int .i64 0, .int .u64 5, .int .u64 9, .int .u64 99], rfl, rfl, rfl, rfl, rfl, rfl, fun a w => by kernel_rfl, fun w => packet_any 1 2 0 5 9 99, fun a w h => by
  refine Eq.trans (b := (do pure (Next.value (← Instr.build 61 #[(0, .int .i64 0), (1, a.tmps.getD 77 undef), (2, .int .u64 4), (3, .int .i64 0)])) : Sem Next).run Try.prog w) (by kernel_rfl) ?_
  rw [h]
  kernel_rfl⟩

theorem pr16 : PairOk 16 := ⟨_, _, ⟨1, 4, 1, pk0, 0, 10⟩, 14, #[.int .i64 4, .int .u64 1], rfl, rfl, rfl, rfl, rfl, rfl, fun a w => by kernel_rfl, fun w => step_plain 4 1, fun a w h => by
  refine Eq.trans (b := (do pure (Next.value (← Instr.build 61 #[(0, .int .i64 1), (1, a.tmps.getD 79 undef), (2, .int .u64 0), (3, .int .i64 10)])) : Sem Next).run Try.prog w) (by kernel_rfl) ?_
  rw [h]
  kernel_rfl⟩

theorem pr17 : PairOk 17 := ⟨_, _, ⟨1, 3, 1, pk0, 0, 8⟩, 14, #[.int .i64 3, .int .u64 1], rfl, rfl, rfl, rfl, rfl, rfl, fun a w => by kernel_rfl, fun w => step_plain 3 1, fun a w h => by
  refine Eq.trans (b := (do pure (Next.value (← Instr.build 61 #[(0, .int .i64 1), (1, a.tmps.getD 81 undef), (2, .int .u64 0), (3, .int .i64 8)])) : Sem Next).run Try.prog w) (by kernel_rfl) ?_
  rw [h]
  kernel_rfl⟩

theorem pr18 : PairOk 18 := ⟨_, _, ⟨1, 3, 0, pk0, 0, 8⟩, 14, #[.int .i64 3, .int .u64 0], rfl, rfl, rfl, rfl, rfl, rfl, fun a w => by kernel_rfl, fun w => step_plain 3 0, fun a w h => by
  refine Eq.trans (b := (do pure (Next.value (← Instr.build 61 #[(0, .int .i64 1), (1, a.tmps.getD 83 undef), (2, .int .u64 0), (3, .int .i64 8)])) : Sem Next).run Try.prog w) (by kernel_rfl) ?_
  rw [h]
  kernel_rfl⟩

theorem pr19 : PairOk 19 := ⟨_, _, ⟨0, 2, 5, pk0, 0, 0⟩, 14, #[.int .i64 2, .int .u64 5], rfl, rfl, rfl, rfl, rfl, rfl, fun a w => by kernel_rfl, fun w => step_plain 2 5, fun a w h => by
  refine Eq.trans (b := (do pure (Next.value (← Instr.build 61 #[(0, .int .i64 0), (1, a.tmps.getD 85 undef), (2, .int .u64 0), (3, .int .i64 0)])) : Sem Next).run Try.prog w) (by kernel_rfl) ?_
  rw [h]
  kernel_rfl⟩

theorem pr20 : PairOk 20 := ⟨_, _, ⟨1, 4, 1, pk0, 0, 10⟩, 14, #[.int .i64 4, .int .u64 1], rfl, rfl, rfl, rfl, rfl, rfl, fun a w => by kernel_rfl, fun w => step_plain 4 1, fun a w h => by
  refine Eq.trans (b := (do pure (Next.value (← Instr.build 61 #[(0, .int .i64 1), (1, a.tmps.getD 87 undef), (2, .int .u64 0), (3, .int .i64 10)])) : Sem Next).run Try.prog w) (by kernel_rfl) ?_
  rw [h]
  kernel_rfl⟩

theorem pr21 : PairOk 21 := ⟨_, _, ⟨1, 3, 1, pk0, 0, 0⟩, 14, #[.int .i64 3, .int .u64 1], rfl, rfl, rfl, rfl, rfl, rfl, fun a w => by kernel_rfl, fun w => step_plain 3 1, fun a w h => by
  refine Eq.trans (b := (do pure (Next.value (← Instr.build 61 #[(0, .int .i64 1), (1, a.tmps.getD 89 undef), (2, .int .u64 0), (3, .int .i64 0)])) : Sem Next).run Try.prog w) (by kernel_rfl) ?_
  rw [h]
  kernel_rfl⟩

theorem pr22 : PairOk 22 := ⟨_, _, ⟨1, 3, 1, pk0, 0, 8⟩, 14, #[.int .i64 3, .int .u64 1], rfl, rfl, rfl, rfl, rfl, rfl, fun a w => by kernel_rfl, fun w => step_plain 3 1, fun a w h => by
  refine Eq.trans (b := (do pure (Next.value (← Instr.build 61 #[(0, .int .i64 1), (1, a.tmps.getD 91 undef), (2, .int .u64 0), (3, .int .i64 8)])) : Sem Next).run Try.prog w) (by kernel_rfl) ?_
  rw [h]
  kernel_rfl⟩

theorem pr23 : PairOk 23 := ⟨_, _, ⟨1, 4, 2, pk0, 0, 9⟩, 14, #[.int .i64 4, .int .u64 2], rfl, rfl, rfl, rfl, rfl, rfl, fun a w => by kernel_rfl, fun w => step_plain 4 2, fun a w h => by
  refine Eq.trans (b := (do pure (Next.value (← Instr.build 61 #[(0, .int .i64 1), (1, a.tmps.getD 93 undef), (2, .int .u64 0), (3, .int .i64 9)])) : Sem Next).run Try.prog w) (by kernel_rfl) ?_
  rw [h]
  kernel_rfl⟩

theorem pr24 : PairOk 24 := ⟨_, _, ⟨1, 4, 1, pk0, 0, 0⟩, 14, #[.int .i64 4, .int .u64 1], rfl, rfl, rfl, rfl, rfl, rfl, fun a w => by kernel_rfl, fun w => step_plain 4 1, fun a w h => by
  refine Eq.trans (b := (do pure (Next.value (← Instr.build 61 #[(0, .int .i64 1), (1, a.tmps.getD 95 undef), (2, .int .u64 0), (3, .int .i64 0)])) : Sem Next).run Try.prog w) (by kernel_rfl) ?_
  rw [h]
  kernel_rfl⟩

theorem pr25 : PairOk 25 := ⟨_, _, ⟨1, 4, 1, pk0, 0, 9⟩, 14, #[.int .i64 4, .int .u64 1], rfl, rfl, rfl, rfl, rfl, rfl, fun a w => by kernel_rfl, fun w => step_plain 4 1, fun a w h => by
  refine Eq.trans (b := (do pure (Next.value (← Instr.build 61 #[(0, .int .i64 1), (1, a.tmps.getD 97 undef), (2, .int .u64 0), (3, .int .i64 9)])) : Sem Next).run Try.prog w) (by kernel_rfl) ?_
  rw [h]
  kernel_rfl⟩

theorem pr26 : PairOk 26 := ⟨_, _, ⟨1, 4, 2, pk0, 0, 0⟩, 14, #[.int .i64 4, .int .u64 2], rfl, rfl, rfl, rfl, rfl, rfl, fun a w => by kernel_rfl, fun w => step_plain 4 2, fun a w h => by
  refine Eq.trans (b := (do pure (Next.value (← Instr.build 61 #[(0, .int .i64 1), (1, a.tmps.getD 99 undef), (2, .int .u64 0), (3, .int .i64 0)])) : Sem Next).run Try.prog w) (by kernel_rfl) ?_
  rw [h]
  kernel_rfl⟩

theorem pr27 : PairOk 27 := ⟨_, _, ⟨0, 5, 1, pk0, 0, 12⟩, 14, #[.int .i64 5, .int .u64 1], rfl, rfl, rfl, rfl, rfl, rfl, fun a w => by kernel_rfl, fun w => step_plain 5 1, fun a w h => by
  refine Eq.trans (b := (do pure (Next.value (← Instr.build 61 #[(0, .int .i64 0), (1, a.tmps.getD 101 undef), (2, .int .u64 0), (3, .int .i64 12)])) : Sem Next).run Try.prog w) (by kernel_rfl) ?_
  rw [h]
  kernel_rfl⟩

theorem pr28 : PairOk 28 := ⟨_, _, ⟨0, 5, 2, pk0, 0, 9⟩, 14, #[.int .i64 5, .int .u64 2], rfl, rfl, rfl, rfl, rfl, rfl, fun a w => by kernel_rfl, fun w => step_plain 5 2, fun a w h => by
  refine Eq.trans (b := (do pure (Next.value (← Instr.build 61 #[(0, .int .i64 0), (1, a.tmps.getD 103 undef), (2, .int .u64 0), (3, .int .i64 9)])) : Sem Next).run Try.prog w) (by kernel_rfl) ?_
  rw [h]
  kernel_rfl⟩

theorem pr29 : PairOk 29 := ⟨_, _, ⟨0, 5, 5, pk0, 0, 10⟩, 14, #[.int .i64 5, .int .u64 5], rfl, rfl, rfl, rfl, rfl, rfl, fun a w => by kernel_rfl, fun w => step_plain 5 5, fun a w h => by
  refine Eq.trans (b := (do pure (Next.value (← Instr.build 61 #[(0, .int .i64 0), (1, a.tmps.getD 105 undef), (2, .int .u64 0), (3, .int .i64 10)])) : Sem Next).run Try.prog w) (by kernel_rfl) ?_
  rw [h]
  kernel_rfl⟩

theorem pr30 : PairOk 30 := ⟨_, _, ⟨0, 6, 1, pk0, 0, 13⟩, 14, #[.int .i64 6, .int .u64 1], rfl, rfl, rfl, rfl, rfl, rfl, fun a w => by kernel_rfl, fun w => step_plain 6 1, fun a w h => by
  refine Eq.trans (b := (do pure (Next.value (← Instr.build 61 #[(0, .int .i64 0), (1, a.tmps.getD 107 undef), (2, .int .u64 0), (3, .int .i64 13)])) : Sem Next).run Try.prog w) (by kernel_rfl) ?_
  rw [h]
  kernel_rfl⟩

theorem pr31 : PairOk 31 := ⟨_, _, ⟨0, 7, 1, pk0, 0, 14⟩, 14, #[.int .i64 7, .int .u64 1], rfl, rfl, rfl, rfl, rfl, rfl, fun a w => by kernel_rfl, fun w => step_plain 7 1, fun a w h => by
  refine Eq.trans (b := (do pure (Next.value (← Instr.build 61 #[(0, .int .i64 0), (1, a.tmps.getD 109 undef), (2, .int .u64 0), (3, .int .i64 14)])) : Sem Next).run Try.prog w) (by kernel_rfl) ?_
  rw [h]
  kernel_rfl⟩

theorem pr32 : PairOk 32 := ⟨_, _, ⟨0, 6, 9, pk0, 0, 10⟩, 14, #[.int .i64 6, .int .u64 9], rfl, rfl, rfl, rfl, rfl, rfl, fun a w => by kernel_rfl, fun w => step_plain 6 9, fun a w h => by
  refine Eq.trans (b := (do pure (Next.value (← Instr.build 61 #[(0, .int .i64 0), (1, a.tmps.getD 111 undef), (2, .int .u64 0), (3, .int .i64 10)])) : Sem Next).run Try.prog w) (by kernel_rfl) ?_
  rw [h]
  kernel_rfl⟩

theorem pr33 : PairOk 33 := ⟨_, _, ⟨0, 9, 0, pk0, 0, 14⟩, 14, #[.int .i64 9, .int .u64 0], rfl, rfl, rfl, rfl, rfl, rfl, fun a w => by kernel_rfl, fun w => step_plain 9 0, fun a w h => by
  refine Eq.trans (b := (do pure (Next.value (← Instr.build 61 #[(0, .int .i64 0), (1, a.tmps.getD 113 undef), (2, .int .u64 0), (3, .int .i64 14)])) : Sem Next).run Try.prog w) (by kernel_rfl) ?_
  rw [h]
  kernel_rfl⟩

theorem pr34 : PairOk 34 := ⟨_, _, ⟨1, 2, 18446744073709551615, pk0, 0, 0⟩, 14, #[.int .i64 2, .int .u64 18446744073709551615], rfl, rfl, rfl, rfl, rfl, rfl, fun a w => by kernel_rfl, fun w => step_plain 2 18446744073709551615, fun a w h => by
  refine Eq.trans (b := (do pure (Next.value (← Instr.build 61 #[(0, .int .i64 1), (1, a.tmps.getD 115 undef), (2, .int .u64 0), (3, .int .i64 0)])) : Sem Next).run Try.prog w) (by kernel_rfl) ?_
  rw [h]
  kernel_rfl⟩

theorem pr35 : PairOk 35 := ⟨_, _, ⟨1, 2, 1, pk0, 0, 15⟩, 14, #[.int .i64 2, .int .u64 1], rfl, rfl, rfl, rfl, rfl, rfl, fun a w => by kernel_rfl, fun w => step_plain 2 1, fun a w h => by
  refine Eq.trans (b := (do pure (Next.value (← Instr.build 61 #[(0, .int .i64 1), (1, a.tmps.getD 117 undef), (2, .int .u64 0), (3, .int .i64 15)])) : Sem Next).run Try.prog w) (by kernel_rfl) ?_
  rw [h]
  kernel_rfl⟩

theorem pr36 : PairOk 36 := ⟨_, _, ⟨1, 2, 0, pk0, 0, 0⟩, 14, #[.int .i64 2, .int .u64 0], rfl, rfl, rfl, rfl, rfl, rfl, fun a w => by kernel_rfl, fun w => step_plain 2 0, fun a w h => by
  refine Eq.trans (b := (do pure (Next.value (← Instr.build 61 #[(0, .int .i64 1), (1, a.tmps.getD 119 undef), (2, .int .u64 0), (3, .int .i64 0)])) : Sem Next).run Try.prog w) (by kernel_rfl) ?_
  rw [h]
  kernel_rfl⟩

theorem pr37 : PairOk 37 := ⟨_, _, ⟨1, 4, 3, pk0, 0, 11⟩, 14, #[.int .i64 4, .int .u64 3], rfl, rfl, rfl, rfl, rfl, rfl, fun a w => by kernel_rfl, fun w => step_plain 4 3, fun a w h => by
  refine Eq.trans (b := (do pure (Next.value (← Instr.build 61 #[(0, .int .i64 1), (1, a.tmps.getD 121 undef), (2, .int .u64 0), (3, .int .i64 11)])) : Sem Next).run Try.prog w) (by kernel_rfl) ?_
  rw [h]
  kernel_rfl⟩

theorem pr38 : PairOk 38 := ⟨_, _, ⟨0, 3, 2, pk0, 0, 0⟩, 14, #[.int .i64 3, .int .u64 2], rfl, rfl, rfl, rfl, rfl, rfl, fun a w => by kernel_rfl, fun w => step_plain 3 2, fun a w h => by
  refine Eq.trans (b := (do pure (Next.value (← Instr.build 61 #[(0, .int .i64 0), (1, a.tmps.getD 123 undef), (2, .int .u64 0), (3, .int .i64 0)])) : Sem Next).run Try.prog w) (by kernel_rfl) ?_
  rw [h]
  kernel_rfl⟩

theorem pr39 : PairOk 39 := ⟨_, _, ⟨0, 5, 1, pk0, 0, 0⟩, 14, #[.int .i64 5, .int .u64 1], rfl, rfl, rfl, rfl, rfl, rfl, fun a w => by kernel_rfl, fun w => step_plain 5 1, fun a w h => by
  refine Eq.trans (b := (do pure (Next.value (← Instr.build 61 #[(0, .int .i64 0), (1, a.tmps.getD 125 undef), (2, .int .u64 0), (3, .int .i64 0)])) : Sem Next).run Try.prog w) (by kernel_rfl) ?_
  rw [h]
  kernel_rfl⟩

theorem pr40 : PairOk 40 := ⟨_, _, ⟨0, 5, 1, pk0, 0, 10⟩, 14, #[.int .i64 5, .int .u64 1], rfl, rfl, rfl, rfl, rfl, rfl, fun a w => by kernel_rfl, fun w => step_plain 5 1, fun a w h => by
  refine Eq.trans (b := (do pure (Next.value (← Instr.build 61 #[(0, .int .i64 0), (1, a.tmps.getD 127 undef), (2, .int .u64 0), (3, .int .i64 10)])) : Sem Next).run Try.prog w) (by kernel_rfl) ?_
  rw [h]
  kernel_rfl⟩

theorem pr41 : PairOk 41 := ⟨_, _, ⟨0, 6, 2, pk0, 0, 13⟩, 14, #[.int .i64 6, .int .u64 2], rfl, rfl, rfl, rfl, rfl, rfl, fun a w => by kernel_rfl, fun w => step_plain 6 2, fun a w h => by
  refine Eq.trans (b := (do pure (Next.value (← Instr.build 61 #[(0, .int .i64 0), (1, a.tmps.getD 129 undef), (2, .int .u64 0), (3, .int .i64 13)])) : Sem Next).run Try.prog w) (by kernel_rfl) ?_
  rw [h]
  kernel_rfl⟩

theorem pr42 : PairOk 42 := ⟨_, _, ⟨0, 5, 2, pk0, 0, 0⟩, 14, #[.int .i64 5, .int .u64 2], rfl, rfl, rfl, rfl, rfl, rfl, fun a w => by kernel_rfl, fun w => step_plain 5 2, fun a w h => by
  refine Eq.trans (b := (do pure (Next.value (← Instr.build 61 #[(0, .int .i64 0), (1, a.tmps.getD 131 undef), (2, .int .u64 0), (3, .int .i64 0)])) : Sem Next).run Try.prog w) (by kernel_rfl) ?_
  rw [h]
  kernel_rfl⟩

theorem pr43 : PairOk 43 := ⟨_, _, ⟨0, 5, 3, pk0, 0, 12⟩, 14, #[.int .i64 5, .int .u64 3], rfl, rfl, rfl, rfl, rfl, rfl, fun a w => by kernel_rfl, fun w => step_plain 5 3, fun a w h => by
  refine Eq.trans (b := (do pure (Next.value (← Instr.build 61 #[(0, .int .i64 0), (1, a.tmps.getD 133 undef), (2, .int .u64 0), (3, .int .i64 12)])) : Sem Next).run Try.prog w) (by kernel_rfl) ?_
  rw [h]
  kernel_rfl⟩

theorem pr44 : PairOk 44 := ⟨_, _, ⟨1, 1, 0, ⟨0, 1, 0, 0, 20, 1, 0⟩, 1, 0⟩, 15, #[.int .i64 1, .int .i64 0, .int .i64 0, .int .u64 20, .int .u64 1, .int .u64 0], rfl, rfl, rfl, rfl, rfl, rfl, fun a w => by kernel_rfl, fun w => packet_any 1 0 0 20 1 0, fun a w h => by
  refine Eq.trans (b := (do pure (Next.value (← Instr.build 61 #[(0, .int .i64 1), (1, a.tmps.getD 135 undef), (2, .int .u64 1), (3, .int .i64 0)])) : Sem Next).run Try.prog w) (by kernel_rfl) ?_
  rw [h]
  kernel_rfl⟩

theorem pr45 : PairOk 45 := ⟨_, _, ⟨1, 2, 0, pk0, 0, 0⟩, 14, #[.int .i64 2, .int .u64 0], rfl, rfl, rfl, rfl, rfl, rfl, fun a w => by kernel_rfl, fun w => step_plain 2 0, fun a w h => by
  refine Eq.trans (b := (do pure (Next.value (← Instr.build 61 #[(0, .int .i64 1), (1, a.tmps.getD 137 undef), (2, .int .u64 0), (3, .int .i64 0)])) : Sem Next).run Try.prog w) (by kernel_rfl) ?_
  rw [h]
  kernel_rfl⟩

theorem pr46 : PairOk 46 := ⟨_, _, ⟨0, 3, 3, pk0, 0, 0⟩, 14, #[.int .i64 3, .int .u64 3], rfl, rfl, rfl, rfl, rfl, rfl, fun a w => by kernel_rfl, fun w => step_plain 3 3, fun a w h => by
  refine Eq.trans (b := (do pure (Next.value (← Instr.build 61 #[(0, .int .i64 0), (1, a.tmps.getD 139 undef), (2, .int .u64 0), (3, .int .i64 0)])) : Sem Next).run Try.prog w) (by kernel_rfl) ?_
  rw [h]
  kernel_rfl⟩

theorem pr47 : PairOk 47 := ⟨_, _, ⟨0, 4, 1, pk0, 0, 11⟩, 14, #[.int .i64 4, .int .u64 1], rfl, rfl, rfl, rfl, rfl, rfl, fun a w => by kernel_rfl, fun w => step_plain 4 1, fun a w h => by
  refine Eq.trans (b := (do pure (Next.value (← Instr.build 61 #[(0, .int .i64 0), (1, a.tmps.getD 141 undef), (2, .int .u64 0), (3, .int .i64 11)])) : Sem Next).run Try.prog w) (by kernel_rfl) ?_
  rw [h]
  kernel_rfl⟩

theorem pr48 : PairOk 48 := ⟨_, _, ⟨0, 6, 4, pk0, 0, 0⟩, 14, #[.int .i64 6, .int .u64 4], rfl, rfl, rfl, rfl, rfl, rfl, fun a w => by kernel_rfl, fun w => step_plain 6 4, fun a w h => by
  refine Eq.trans (b := (do pure (Next.value (← Instr.build 61 #[(0, .int .i64 0), (1, a.tmps.getD 143 undef), (2, .int .u64 0), (3, .int .i64 0)])) : Sem Next).run Try.prog w) (by kernel_rfl) ?_
  rw [h]
  kernel_rfl⟩

theorem pr49 : PairOk 49 := ⟨_, _, ⟨0, 1, 0, ⟨0, 0, 0, 0, 1, 9, 0⟩, 0, 2⟩, 15, #[.int .i64 0, .int .i64 0, .int .i64 0, .int .u64 1, .int .u64 9, .int .u64 0], rfl, rfl, rfl, rfl, rfl, rfl, fun a w => by kernel_rfl, fun w => packet_any 0 0 0 1 9 0, fun a w h => by
  refine Eq.trans (b := (do pure (Next.value (← Instr.build 61 #[(0, .int .i64 0), (1, a.tmps.getD 145 undef), (2, .int .u64 0), (3, .int .i64 2)])) : Sem Next).run Try.prog w) (by kernel_rfl) ?_
  rw [h]
  kernel_rfl⟩

theorem pr50 : PairOk 50 := ⟨_, _, ⟨0, 4, 1, pk0, 0, 2⟩, 14, #[.int .i64 4, .int .u64 1], rfl, rfl, rfl, rfl, rfl, rfl, fun a w => by kernel_rfl, fun w => step_plain 4 1, fun a w h => by
  refine Eq.trans (b := (do pure (Next.value (← Instr.build 61 #[(0, .int .i64 0), (1, a.tmps.getD 147 undef), (2, .int .u64 0), (3, .int .i64 2)])) : Sem Next).run Try.prog w) (by kernel_rfl) ?_
  rw [h]
  kernel_rfl⟩

theorem pr51 : PairOk 51 := ⟨_, _, ⟨0, 8, 0, pk0, 0, 2⟩, 14, #[.int .i64 8, .int .u64 0], rfl, rfl, rfl, rfl, rfl, rfl, fun a w => by kernel_rfl, fun w => step_plain 8 0, fun a w h => by
  refine Eq.trans (b := (do pure (Next.value (← Instr.build 61 #[(0, .int .i64 0), (1, a.tmps.getD 149 undef), (2, .int .u64 0), (3, .int .i64 2)])) : Sem Next).run Try.prog w) (by kernel_rfl) ?_
  rw [h]
  kernel_rfl⟩

theorem pr52 : PairOk 52 := ⟨_, _, ⟨0, 9, 0, pk0, 0, 2⟩, 14, #[.int .i64 9, .int .u64 0], rfl, rfl, rfl, rfl, rfl, rfl, fun a w => by kernel_rfl, fun w => step_plain 9 0, fun a w h => by
  refine Eq.trans (b := (do pure (Next.value (← Instr.build 61 #[(0, .int .i64 0), (1, a.tmps.getD 151 undef), (2, .int .u64 0), (3, .int .i64 2)])) : Sem Next).run Try.prog w) (by kernel_rfl) ?_
  rw [h]
  kernel_rfl⟩

theorem pr53 : PairOk 53 := ⟨_, _, ⟨0, 6, 3, pk0, 0, 0⟩, 14, #[.int .i64 6, .int .u64 3], rfl, rfl, rfl, rfl, rfl, rfl, fun a w => by kernel_rfl, fun w => step_plain 6 3, fun a w h => by
  refine Eq.trans (b := (do pure (Next.value (← Instr.build 61 #[(0, .int .i64 0), (1, a.tmps.getD 153 undef), (2, .int .u64 0), (3, .int .i64 0)])) : Sem Next).run Try.prog w) (by kernel_rfl) ?_
  rw [h]
  kernel_rfl⟩

theorem pr54 : PairOk 54 := ⟨_, _, ⟨0, 2, 0, pk0, 0, 0⟩, 14, #[.int .i64 2, .int .u64 0], rfl, rfl, rfl, rfl, rfl, rfl, fun a w => by kernel_rfl, fun w => step_plain 2 0, fun a w h => by
  refine Eq.trans (b := (do pure (Next.value (← Instr.build 61 #[(0, .int .i64 0), (1, a.tmps.getD 155 undef), (2, .int .u64 0), (3, .int .i64 0)])) : Sem Next).run Try.prog w) (by kernel_rfl) ?_
  rw [h]
  kernel_rfl⟩

theorem pr55 : PairOk 55 := ⟨_, _, ⟨1, 7, 1, pk0, 0, 14⟩, 14, #[.int .i64 7, .int .u64 1], rfl, rfl, rfl, rfl, rfl, rfl, fun a w => by kernel_rfl, fun w => step_plain 7 1, fun a w h => by
  refine Eq.trans (b := (do pure (Next.value (← Instr.build 61 #[(0, .int .i64 1), (1, a.tmps.getD 157 undef), (2, .int .u64 0), (3, .int .i64 14)])) : Sem Next).run Try.prog w) (by kernel_rfl) ?_
  rw [h]
  kernel_rfl⟩

theorem pr56 : PairOk 56 := ⟨_, _, ⟨1, 3, 2, pk0, 0, 0⟩, 14, #[.int .i64 3, .int .u64 2], rfl, rfl, rfl, rfl, rfl, rfl, fun a w => by kernel_rfl, fun w => step_plain 3 2, fun a w h => by
  refine Eq.trans (b := (do pure (Next.value (← Instr.build 61 #[(0, .int .i64 1), (1, a.tmps.getD 159 undef), (2, .int .u64 0), (3, .int .i64 0)])) : Sem Next).run Try.prog w) (by kernel_rfl) ?_
  rw [h]
  kernel_rfl⟩

theorem pr57 : PairOk 57 := ⟨_, _, ⟨1, 6, 1, pk0, 0, 0⟩, 14, #[.int .i64 6, .int .u64 1], rfl, rfl, rfl, rfl, rfl, rfl, fun a w => by kernel_rfl, fun w => step_plain 6 1, fun a w h => by
  refine Eq.trans (b := (do pure (Next.value (← Instr.build 61 #[(0, .int .i64 1), (1, a.tmps.getD 161 undef), (2, .int .u64 0), (3, .int .i64 0)])) : Sem Next).run Try.prog w) (by kernel_rfl) ?_
  rw [h]
  kernel_rfl⟩

theorem pr58 : PairOk 58 := ⟨_, _, ⟨1, 9, 0, pk0, 0, 2⟩, 14, #[.int .i64 9, .int .u64 0], rfl, rfl, rfl, rfl, rfl, rfl, fun a w => by kernel_rfl, fun w => step_plain 9 0, fun a w h => by
  refine Eq.trans (b := (do pure (Next.value (← Instr.build 61 #[(0, .int .i64 1), (1, a.tmps.getD 163 undef), (2, .int .u64 0), (3, .int .i64 2)])) : Sem Next).run Try.prog w) (by kernel_rfl) ?_
  rw [h]
  kernel_rfl⟩

theorem pairs : ∀ i, i < 59 → PairOk i
  | 0, _ => pr0
  | 1, _ => pr1
  | 2, _ => pr2
  | 3, _ => pr3
  | 4, _ => pr4
  | 5, _ => pr5
  | 6, _ => pr6
  | 7, _ => pr7
  | 8, _ => pr8
  | 9, _ => pr9
  | 10, _ => pr10
  | 11, _ => pr11
  | 12, _ => pr12
  | 13, _ => pr13
  | 14, _ => pr14
  | 15, _ => pr15
  | 16, _ => pr16
  | 17, _ => pr17
  | 18, _ => pr18
  | 19, _ => pr19
  | 20, _ => pr20
  | 21, _ => pr21
  | 22, _ => pr22
  | 23, _ => pr23
  | 24, _ => pr24
  | 25, _ => pr25
  | 26, _ => pr26
  | 27, _ => pr27
  | 28, _ => pr28
  | 29, _ => pr29
  | 30, _ => pr30
  | 31, _ => pr31
  | 32, _ => pr32
  | 33, _ => pr33
  | 34, _ => pr34
  | 35, _ => pr35
  | 36, _ => pr36
  | 37, _ => pr37
  | 38, _ => pr38
  | 39, _ => pr39
  | 40, _ => pr40
  | 41, _ => pr41
  | 42, _ => pr42
  | 43, _ => pr43
  | 44, _ => pr44
  | 45, _ => pr45
  | 46, _ => pr46
  | 47, _ => pr47
  | 48, _ => pr48
  | 49, _ => pr49
  | 50, _ => pr50
  | 51, _ => pr51
  | 52, _ => pr52
  | 53, _ => pr53
  | 54, _ => pr54
  | 55, _ => pr55
  | 56, _ => pr56
  | 57, _ => pr57
  | 58, _ => pr58
  | _ + 59, h => absurd h (by omega)

end Go.Proofs.Ytmfdhcnnhlchbab
