import Derived.Test.YtmfdhcnnhlchbaaC30
namespace Go.Proofs.Ytmfdhcnnhlchbaa
open Go.RowKit Go.Maps

theorem infoInt : (Try.prog.info? 3).map (fun i => (i.zero, i.size, i.bytes)) = some (some (.int .i64 0), 1, 8) := by kernel_rfl
theorem infoBool : (Try.prog.info? 4).map (fun i => (i.zero, i.size, i.bytes)) = some (some (.bool false), 1, 1) := by kernel_rfl

section
variable {lab : Nat → Nat} {w : World} {y x : Nat} {m : Mod} {L0 L1 : Lg} {r0 r1 : LgAt} {B c i : Nat} {k n seq : Int} {p : Pk}

theorem send_done (h : Wm lab w y x m L0 L1 r0 r1 B) (hc : c < 2) {L : Lg} (hL : L = lgOf L0 L1 c) (hl : Lens L) {r : LgAt} (hr : r = atOf r0 r1 c) {w' : World} (ho : w'.os = w.os) (htp : w'.tape = w.tape) (hou : w'.output = w.output) (hsz : w.heap.size ≤ w'.heap.size)
    (hb : ∀ k, k < w.heap.size → some k ≠ (L.vs r).ownBlock → some k ≠ (L.va r).ownBlock → some k ≠ (L.vp r).ownBlock → k ≠ y → w'.heap[k]? = w.heap[k]?)
    {aS aA aP : Option Addr} {kS kA kP : Nat} (blk : w'.heap[y]? = some (.cells (wdCells x (put0 c L0 (L.sends p)) (put1 c L1 (L.sends p)) (put0 c r0 ⟨aS, kS, aA, kA, aP, kP⟩) (put1 c r1 ⟨aS, kS, aA, kA, aP, kP⟩)) tWd (0, 0)))
    (oS : w'.ownsRow 0 tPk 7 (.slice aS (L.sent.length + 1) kS) (L.sent.length + 1) (L.sent.flatMap Pk.cells ++ p.cells)) (oA : w'.ownsRow 0 tInt 1 (.slice aA (L.sent.length + 1) kA) (L.sent.length + 1) (L.ans.map (Value.int .i64) ++ [.int .i64 0]))
    (oP : w'.ownsRow 0 tBool 1 (.slice aP (L.sent.length + 1) kP) (L.sent.length + 1) (L.pend.map Value.bool ++ [.bool true]))
    (fS : ∀ k, (Value.slice aS (L.sent.length + 1) kS).ownBlock = some k → (L.vs r).ownBlock = some k ∨ w.heap.size ≤ k) (fA : ∀ k, (Value.slice aA (L.sent.length + 1) kA).ownBlock = some k → (L.va r).ownBlock = some k ∨ w.heap.size ≤ k) (fP : ∀ k, (Value.slice aP (L.sent.length + 1) kP).ownBlock = some k → (L.vp r).ownBlock = some k ∨ w.heap.size ≤ k) :
    TookTo lab w y x m B (put0 c L0 (L.sends p)) (put1 c L1 (L.sends p)) w' := by
  have hR : LgRows lab w L r (5 + c) (7 + c) (9 + c) := by rw [hL, hr]; exact h.lg hc
  obtain ⟨lab', hlab'⟩ : ∃ lab' : Nat → Nat, lab' = fun k => if k < w.heap.size then lab k else if (Value.slice aS (L.sent.length + 1) kS).ownBlock = some k then 5 + c else if (Value.slice aA (L.sent.length + 1) kA).ownBlock = some k then 7 + c else if (Value.slice aP (L.sent.length + 1) kP).ownBlock = some k then 9 + c else 0 := ⟨_, rfl⟩
  have hold : ∀ k, k < w.heap.size → lab' k = lab k := fun k hk => by rw [hlab']; simp [hk]
  have hS : ∀ k, (Value.slice aS (L.sent.length + 1) kS).ownBlock = some k → lab' k = 5 + c := by
    intro k e
    by_cases hk : k < w.heap.size
    · rw [hold k hk]
      rcases fS k e with e1 | e1
      · exact hR.ls_ k e1
      · omega
    · rw [hlab']; simp only [hk, if_false, e, if_true]
  have hA : ∀ k, (Value.slice aA (L.sent.length + 1) kA).ownBlock = some k → lab' k = 7 + c := by
    intro k e
    by_cases hk : k < w.heap.size
    · rw [hold k hk]
      rcases fA k e with e1 | e1
      · exact hR.la_ k e1
      · omega
    · rw [hlab']; simp only [hk, if_false, e, if_true, if_neg (rows_ne oA oS (by decide) e)]
  have hP : ∀ k, (Value.slice aP (L.sent.length + 1) kP).ownBlock = some k → lab' k = 9 + c := by
    intro k e
    by_cases hk : k < w.heap.size
    · rw [hold k hk]
      rcases fP k e with e1 | e1
      · exact hR.lp_ k e1
      · omega
    · rw [hlab']; simp only [hk, if_false, e, if_true, if_neg (rows_ne oP oS (by decide) e), if_neg (rows_ne oP oA (by decide) e)]
  have hsame : ∀ k, k < w.heap.size → lab k ≠ 4 → lab k ≠ 5 + c → lab k ≠ 7 + c → lab k ≠ 9 + c → w'.heap[k]? = w.heap[k]? := fun k hk e1 e2 e3 e4 =>
    hb k hk (fun e => e2 (hR.ls_ k e.symm)) (fun e => e3 (hR.la_ k e.symm)) (fun e => e4 (hR.lp_ k e.symm)) (fun e => e1 (by rw [e]; exact h.ly))
  have e1 := hl.a
  have e2 := hl.p
  refine ⟨lab', _, _, h.turn hc (L := L.sends p) (r := ⟨aS, kS, aA, kA, aP, kP⟩) blk ⟨?_, ?_, ?_, ?_, ?_, ?_⟩ hsame hold, ⟨ho, htp, hou, hsz, hold, fun k hk e => hsame k hk (by omega) (by omega) (by omega) (by omega)⟩⟩
  · simpa [Lg.vs, Lg.sends] using oS
  · simpa [Lg.va, Lg.sends, e1] using oA
  · simpa [Lg.vp, Lg.sends, e2] using oP
  · intro k e; exact hS k (by simpa [Lg.vs, Lg.sends] using e)
  · intro k e; exact hA k (by simpa [Lg.va, Lg.sends, e1] using e)
  · intro k e; exact hP k (by simpa [Lg.vp, Lg.sends, e2] using e)

end

end Go.Proofs.Ytmfdhcnnhlchbaa
