import Derived.Test.YtmfdhcnnhlchbaaGreatC35
import Derived.Conc.AtomicLaws2
import Derived.Test.YtmfdhcnnhlchbaaGreatC36
namespace Go.Proofs.YtmfdhcnnhlchbaaGreat
open Go.RowKit Go.Maps

theorem run_add {w : World} {x j : Nat} {t : Int} (c : w.cell? ⟨x, j, none⟩ = some (.int .i64 t)) (hf : w.frozen? ⟨x, j, none⟩ = false) (ht : 0 ≤ t ∧ t ≤ 10000000) :
    Sem.run Tryz.prog (callFunc 68 #[.pointer (some ⟨x, j, none⟩), .int .i64 1]) w = .ok (.value (.int .i64 (t + 1))) (w.setCell ⟨x, j, none⟩ (.int .i64 (t + 1))) := by
  have hb : Tryz.f68.body.isNone = true := by kernel_rfl
  have hn : (Tryz.f68.name == "runtime.NumGoroutine") = false := by kernel_rfl
  have hx : Extern.findNext Tryz.f68 = none := by kernel_rfl
  have he : Extern.find Tryz.f68 = some (Extern.Atomic.update (Op.intArith .add) .i64 true) := by kernel_rfl
  have hr := Conc.run_add_entry (P := Tryz.prog) (d := 1) c hf
  rw [show IntKind.i64.wrap (t + 1) = t + 1 from by simp [IntKind.wrap, IntKind.bits, IntKind.signed]; omega] at hr
  unfold callFunc
  simp [Tryz.func68, hx, he, hr, Result.andThen]
  rw [if_neg (by simpa using hn), if_pos (by simpa using hb)]

set_option maxRecDepth 100000 in
theorem add_any {w : World} {x j : Nat} {t : Int} (c : w.cell? ⟨x, j, none⟩ = some (.int .i64 t)) (hf : w.frozen? ⟨x, j, none⟩ = false) (ht : 0 ≤ t ∧ t ≤ 10000000) :
    Calls Tryz.prog 48 #[.pointer (some ⟨x, j, none⟩), .int .i64 1] w fun e w' => e = .returned (.int .i64 (t + 1)) ∧ w' = w.setCell ⟨x, j, none⟩ (.int .i64 (t + 1)) := by
  have hr := run_add c hf ht
  go_enter Tryz.func48, Tryz.ntmps48
  go_wp2_with fail
  go_ret
  exact ⟨rfl, rfl⟩

end Go.Proofs.YtmfdhcnnhlchbaaGreat

namespace Go.Proofs.YtmfdhcnnhlchbaaGreat
open Go.RowKit Go.Maps

section
variable {lab : Nat → Nat} {w : World} {x : Nat} {m : Mod} {a0 a1 : DAt} {K0 K1 : Hd} {B : Nat} {k n : Int} {p : Pk}

/-- What a step of the bridge leaves of all else. -/
structure StepB (x : Nat) (lab lab' : Nat → Nat) (w w' : World) : Prop where
  os : w'.os = w.os
  tape : w'.tape = w.tape
  output : w'.output = w.output
  size : w.heap.size ≤ w'.heap.size
  label : ∀ k, k < w.heap.size → lab' k = lab k
  block : ∀ k, k < w.heap.size → lab k = 0 → w'.heap[k]? = w.heap[k]?
  new : ∀ k, w.heap.size ≤ k → k < w'.heap.size → lab' k = 0 ∨ lab' k = 1 ∨ lab' k = 2
  far : ∀ k, k < w.heap.size → 4 ≤ lab k → w'.heap[k]? = w.heap[k]?

def BrTo (lab : Nat → Nat) (w : World) (x : Nat) (m' : Mod) (B' : Nat) (w' : World) : Prop := ∃ lab' a0 a1 K0 K1, Br lab' w' x m' a0 a1 K0 K1 B' ∧ StepB x lab lab' w w'

theorem StepB.of {l : Nat} {lab lab' : Nat → Nat} {w w' : World} (st : StepL l x lab lab' w w') (hl : l = 1 ∨ l = 2) (hx : lab x ≠ 0 ∧ lab x < 4) : StepB x lab lab' w w' :=
  ⟨st.os, st.tape, st.output, st.size, st.label, fun k hk e => st.block k hk (by omega) (fun e1 => hx.1 (by rw [← e1]; exact e)), fun k h1 h2 => by rcases st.new k h1 h2 with e | e <;> rcases hl with rfl | rfl <;> omega, fun k hk e => st.block k hk (by omega) (fun e1 => by subst e1; omega)⟩

theorem StepB.trans {lab lab1 lab2 : Nat → Nat} {w w1 w2 : World} (h : StepB x lab lab1 w w1) (g : StepB x lab1 lab2 w1 w2) : StepB x lab lab2 w w2 := by
  refine ⟨g.os.trans h.os, g.tape.trans h.tape, g.output.trans h.output, Nat.le_trans h.size g.size, fun k hk => (g.label k (Nat.lt_of_lt_of_le hk h.size)).trans (h.label k hk), fun k hk e => ?_, fun k h1 h2 => ?_, fun k hk e => (g.far k (Nat.lt_of_lt_of_le hk h.size) (by rw [h.label k hk]; exact e)).trans (h.far k hk e)⟩
  · exact (g.block k (Nat.lt_of_lt_of_le hk h.size) (by rw [h.label k hk]; exact e)).trans (h.block k hk e)
  · by_cases e : k < w1.heap.size
    · rw [g.label k e]; exact h.new k h1 e
    · exact g.new k (by omega) h2

/-- Both chains, when chain 0 has turned. -/
theorem br0 (h : Br lab w x m a0 a1 K0 K1 B) {lab' : Nat → Nat} {w' : World} {S' : Ch} {K' : Hd} {a' : DAt} {B' : Nat} (hB : B ≤ B') (hc : DevCh lab' 1 w' x [] (dchCells m.c1 K1 a1 ++ [.int .i64 m.taken]) S' K' a' B') (st : StepL 1 x lab lab' w w')
    (hk : ∃ y, a1.hs[S'.known]? = some y ∧ y.hd = K') (hh : S'.hd.height + 1 = S'.heads.length) (hk1 : ∃ y, a'.hs[m.c1.known]? = some y ∧ y.hd = K1) : Br lab' w' x { m with c0 := S' } a' a1 K' K1 B' := by
  have hlx : lab' x = 3 := by rw [st.label x (blk_lt h.c0.blk)]; exact h.lx
  refine ⟨hc, ?_, hk, hk1, hh, h.h1, hlx⟩
  refine ((h.c1.mono hB).keep (lab' := lab') ?_ (fun k hk e => st.block k hk (by omega) (fun e1 => by have := h.lx; rw [← e1] at this; omega)) st.label)
  have := hc.blk
  simpa using this

theorem br1 (h : Br lab w x m a0 a1 K0 K1 B) {lab' : Nat → Nat} {w' : World} {S' : Ch} {K' : Hd} {a' : DAt} {B' : Nat} (hB : B ≤ B') (hc : DevCh lab' 2 w' x (dchCells m.c0 K0 a0) [.int .i64 m.taken] S' K' a' B') (st : StepL 2 x lab lab' w w')
    (hk : ∃ y, a0.hs[S'.known]? = some y ∧ y.hd = K') (hh : S'.hd.height + 1 = S'.heads.length) (hk0 : ∃ y, a'.hs[m.c0.known]? = some y ∧ y.hd = K0) : Br lab' w' x { m with c1 := S' } a0 a' K0 K' B' := by
  have hlx : lab' x = 3 := by rw [st.label x (blk_lt h.c0.blk)]; exact h.lx
  refine ⟨?_, hc, hk0, hk, h.h0, hh, hlx⟩
  refine ((h.c0.mono hB).keep (lab' := lab') ?_ (fun k hk e => st.block k hk (by omega) (fun e1 => by have := h.lx; rw [← e1] at this; omega)) st.label)
  have := hc.blk
  simpa using this

/-- One more step is counted. -/
theorem br_taken (h : Br lab w x m a0 a1 K0 K1 B) (t : Int) : Br lab (w.setCell ⟨x, 44, none⟩ (.int .i64 t)) x { m with taken := t } a0 a1 K0 K1 B := by
  have hx : ∀ k, k ≠ x → (w.setCell ⟨x, 44, none⟩ (.int .i64 t)).heap[k]? = w.heap[k]? := fun k hk => setCell_other _ _ _ hk
  have hne : ∀ k, k < w.heap.size → lab k = 1 ∨ lab k = 2 ∨ lab k = 0 → k ≠ x := fun k _ e e1 => by have := h.lx; rw [← e1] at this; omega
  have hb : (w.setCell ⟨x, 44, none⟩ (.int .i64 t)).heap[x]? = some (.cells (dchCells m.c0 K0 a0 ++ dchCells m.c1 K1 a1 ++ [Value.int .i64 t]).toArray tBr (0, 0)) := by
    have := blkq_set (w := w) (x := x) (pre := dchCells m.c0 K0 a0 ++ dchCells m.c1 K1 a1) (post := []) (cs := [Value.int .i64 m.taken]) (t := tBr) (by simpa using h.c1.blk) (q := 44) rfl 0 (by simp) (.int .i64 t)
    simpa using this
  exact ⟨h.c0.keep (by simpa using hb) (fun k hk e => hx k (hne k hk (by omega))) (fun _ _ => rfl), h.c1.keep (by simpa using hb) (fun k hk e => hx k (hne k hk (by omega))) (fun _ _ => rfl), h.k0, h.k1, h.h0, h.h1, h.lx⟩

theorem Br.row0 (h : Br lab w x m a0 a1 K0 K1 B) : ∃ g, a1.ah = some ⟨g, 0, none⟩ ∧ g < w.heap.size ∧ a1.hs.length ≤ a1.ch ∧ lab g = 2 := by
  have hp := h.len1
  obtain ⟨g, hg⟩ := row_some h.c1.heads hp
  have hr := h.c1.heads
  rw [DAt.vh, hg] at hr
  refine ⟨g, hg, owns_lt hr rfl, ?_, h.c1.lheads g (by rw [DAt.vh, hg]; rfl)⟩
  rcases hr.2 with ⟨hv, _⟩ | ⟨g', cap, cur, hv, _, _, h2, _⟩
  · cases hv
  · cases hv; exact h2

theorem Br.others0 (h : Br lab w x m a0 a1 K0 K1 B) {g : Nat} (hg : a1.ah = some ⟨g, 0, none⟩) : Others lab 1 w x a1.hs m.c0.known g (m.c0.known * 9) (a1.hs.length - m.c0.known) B := by
  obtain ⟨y, hy, _⟩ := h.k0
  have hk := (List.getElem?_eq_some_iff.1 hy).1
  have hr := h.c1.heads
  rw [DAt.vh, hg] at hr
  have hlg : lab g = 2 := h.c1.lheads g (by rw [DAt.vh, hg]; rfl)
  exact ⟨fun i y hi j v hv => row_from hr hi j v hv, owns_lt hr rfl, by rw [hlg]; decide, fun e => by have := h.lx; rw [← e, hlg] at this; omega, by omega, by omega, h.c1.each, h.c1.good.told, fun i y hy => h.c1.good.heads i y.hd (by rw [← h.c1.hsS, List.getElem?_map, hy]; rfl), h.c1.good.lens, h.c1.good.hseq, by rw [show a1.hs.length = m.c1.heads.length from by rw [← h.c1.hsS]; simp]; exact h.c1.good.lh⟩

theorem Br.row1 (h : Br lab w x m a0 a1 K0 K1 B) : ∃ g, a0.ah = some ⟨g, 0, none⟩ ∧ g < w.heap.size ∧ a0.hs.length ≤ a0.ch ∧ lab g = 1 := by
  have hp := h.len0
  obtain ⟨g, hg⟩ := row_some h.c0.heads hp
  have hr := h.c0.heads
  rw [DAt.vh, hg] at hr
  refine ⟨g, hg, owns_lt hr rfl, ?_, h.c0.lheads g (by rw [DAt.vh, hg]; rfl)⟩
  rcases hr.2 with ⟨hv, _⟩ | ⟨g', cap, cur, hv, _, _, h2, _⟩
  · cases hv
  · cases hv; exact h2

theorem Br.others1 (h : Br lab w x m a0 a1 K0 K1 B) {g : Nat} (hg : a0.ah = some ⟨g, 0, none⟩) : Others lab 2 w x a0.hs m.c1.known g (m.c1.known * 9) (a0.hs.length - m.c1.known) B := by
  obtain ⟨y, hy, _⟩ := h.k1
  have hk := (List.getElem?_eq_some_iff.1 hy).1
  have hr := h.c0.heads
  rw [DAt.vh, hg] at hr
  have hlg : lab g = 1 := h.c0.lheads g (by rw [DAt.vh, hg]; rfl)
  exact ⟨fun i y hi j v hv => row_from hr hi j v hv, owns_lt hr rfl, by rw [hlg]; decide, fun e => by have := h.lx; rw [← e, hlg] at this; omega, by omega, by omega, h.c0.each, h.c0.good.told, fun i y hy => h.c0.good.heads i y.hd (by rw [← h.c0.hsS, List.getElem?_map, hy]; rfl), h.c0.good.lens, h.c0.good.hseq, by rw [show a0.hs.length = m.c0.heads.length from by rw [← h.c0.hsS]; simp]; exact h.c0.good.lh⟩

theorem step_all0 (h : Br lab w x m a0 a1 K0 K1 B) (hB : B ≤ 8000000) {f g o ln ch : Nat} (O : Others lab 1 w x a1.hs f g o ln B) (hch : ln ≤ ch) (hf : f ≤ m.c0.known) (hn : 0 ≤ n ∧ n < 18446744073709551616) :
    StepCall w x 0 k n p (some ⟨g, o, none⟩) ln ch (DStep lab 1 w x [] (dchCells m.c1 K1 a1 ++ [.int .i64 m.taken]) (doC m.c0 k n p K0 a1.hs.length) a1.hs (B + 4)) := by
  obtain ⟨y, hy, hK⟩ := h.k0
  by_cases e1 : k = 1
  · subst e1; exact step_send h.c0 (by decide) rfl hB hy hK
  by_cases e2 : k = 2
  · subst e2; exact step_tick h.c0 (by decide) rfl hB h.h0 hy hK
  by_cases e3 : k = 3
  · subst e3; exact step_update h.c0 (by decide) rfl hB O hch hf hy hK hn
  by_cases e4 : k = 4
  · subst e4; exact step_recv h.c0 (by decide) rfl hB hn hy hK
  by_cases e5 : k = 5
  · subst e5; exact step_ack h.c0 (by decide) rfl hB hn hy hK
  by_cases e6 : k = 6
  · subst e6; exact step_timeout h.c0 (by decide) rfl hB hn hy hK
  by_cases e7 : k = 7
  · subst e7; exact step_timeoutClosed h.c0 (by decide) rfl hB hn hy hK
  by_cases e8 : k = 8
  · subst e8; exact step_close h.c0 rfl hy hK
  by_cases e9 : k = 9
  · subst e9; exact step_confirm h.c0 rfl hy hK
  exact step_other h.c0 hy hK (by simpa using e1) (by simpa using e2) (by simpa using e3) (by simpa using e4) (by simpa using e5) (by simpa using e6) (by simpa using e7) (by simpa using e8) (by simpa using e9)

theorem step_all1 (h : Br lab w x m a0 a1 K0 K1 B) (hB : B ≤ 8000000) {f g o ln ch : Nat} (O : Others lab 2 w x a0.hs f g o ln B) (hch : ln ≤ ch) (hf : f ≤ m.c1.known) (hn : 0 ≤ n ∧ n < 18446744073709551616) :
    StepCall w x 22 k n p (some ⟨g, o, none⟩) ln ch (DStep lab 2 w x (dchCells m.c0 K0 a0) [.int .i64 m.taken] (doC m.c1 k n p K1 a0.hs.length) a0.hs (B + 4)) := by
  obtain ⟨y, hy, hK⟩ := h.k1
  by_cases e1 : k = 1
  · subst e1; exact step_send h.c1 (by decide) rfl hB hy hK
  by_cases e2 : k = 2
  · subst e2; exact step_tick h.c1 (by decide) rfl hB h.h1 hy hK
  by_cases e3 : k = 3
  · subst e3; exact step_update h.c1 (by decide) rfl hB O hch hf hy hK hn
  by_cases e4 : k = 4
  · subst e4; exact step_recv h.c1 (by decide) rfl hB hn hy hK
  by_cases e5 : k = 5
  · subst e5; exact step_ack h.c1 (by decide) rfl hB hn hy hK
  by_cases e6 : k = 6
  · subst e6; exact step_timeout h.c1 (by decide) rfl hB hn hy hK
  by_cases e7 : k = 7
  · subst e7; exact step_timeoutClosed h.c1 (by decide) rfl hB hn hy hK
  by_cases e8 : k = 8
  · subst e8; exact step_close h.c1 rfl hy hK
  by_cases e9 : k = 9
  · subst e9; exact step_confirm h.c1 rfl hy hK
  exact step_other h.c1 hy hK (by simpa using e1) (by simpa using e2) (by simpa using e3) (by simpa using e4) (by simpa using e5) (by simpa using e6) (by simpa using e7) (by simpa using e8) (by simpa using e9)

theorem keep_send (S : Ch) (p : Pk) : (sendC S p).1.heads = S.heads ∧ (sendC S p).1.hd.height = S.hd.height := by rw [sendC_eq]; split <;> exact ⟨rfl, rfl⟩
theorem keep_update (S : Ch) (n : Int) (hl : Nat) : (updateC S n hl).1.heads = S.heads ∧ (updateC S n hl).1.hd.height = S.hd.height := by unfold updateC; split <;> exact ⟨rfl, rfl⟩
theorem keep_recv (S : Ch) (n : Int) (K : Hd) : (recvC S n K).1.heads = S.heads ∧ (recvC S n K).1.hd.height = S.hd.height := by
  unfold recvC
  repeat' split
  all_goals exact ⟨rfl, rfl⟩
theorem keep_ack (S : Ch) (n : Int) (K : Hd) : (ackC S n K).1.heads = S.heads ∧ (ackC S n K).1.hd.height = S.hd.height := by
  unfold ackC
  repeat' split
  all_goals first | exact ⟨rfl, rfl⟩ | (dsimp only; split <;> exact ⟨rfl, rfl⟩)
theorem keep_back (S : Ch) (n : Int) (K : Hd) (b : Bool) : (backC S n K b).1.heads = S.heads ∧ (backC S n K b).1.hd.height = S.hd.height := by
  unfold backC
  repeat' split
  all_goals exact ⟨rfl, rfl⟩
theorem keep_close (S : Ch) : (closeC S).1.heads = S.heads ∧ (closeC S).1.hd.height = S.hd.height := by unfold closeC; split <;> exact ⟨rfl, rfl⟩
theorem keep_confirm (S : Ch) (K : Hd) : (confirmC S K).1.heads = S.heads ∧ (confirmC S K).1.hd.height = S.hd.height := by
  unfold confirmC
  repeat' split
  all_goals exact ⟨rfl, rfl⟩

theorem doC_keep (S : Ch) (k n : Int) (p : Pk) (K : Hd) (hl : Nat) : ((doC S k n p K hl).1.heads = S.heads ∧ (doC S k n p K hl).1.hd.height = S.hd.height) ∨ ((doC S k n p K hl).1 = (tickC S n).1) := by
  unfold doC
  split
  · exact .inl (keep_send S p)
  split
  · exact .inr rfl
  split
  · exact .inl (keep_update S n hl)
  split
  · exact .inl (keep_recv S n K)
  split
  · exact .inl (keep_ack S n K)
  split
  · exact .inl (keep_back S n K false)
  split
  · exact .inl (keep_back S n K true)
  split
  · exact .inl (keep_close S)
  split
  · exact .inl (keep_confirm S K)
  · exact .inl ⟨rfl, rfl⟩

theorem doC_heads (S : Ch) (k n : Int) (p : Pk) (K : Hd) (hl i : Nat) (hi : i < S.heads.length) : (doC S k n p K hl).1.heads[i]? = S.heads[i]? := by
  rcases doC_keep S k n p K hl with ⟨e, _⟩ | e
  · rw [e]
  · rw [e]
    unfold tickC
    split
    · rfl
    · exact List.getElem?_append_left hi

theorem doC_height (S : Ch) (k n : Int) (p : Pk) (K : Hd) (hl : Nat) (h : S.hd.height + 1 = S.heads.length) (hb : S.heads.length ≤ 9000000) : (doC S k n p K hl).1.hd.height + 1 = (doC S k n p K hl).1.heads.length := by
  rcases doC_keep S k n p K hl with ⟨e1, e2⟩ | e
  · rw [e1, e2]; exact h
  · rw [e]
    unfold tickC
    split
    · exact h
    · show IntKind.u64.wrap (S.hd.height + 1) + 1 = ((S.heads ++ [(S.later n).hd]).length : Int)
      rw [h]
      simp [IntKind.wrap, IntKind.bits, IntKind.signed]
      omega

set_option maxRecDepth 100000 in
theorem others0 (h : Br lab w x m a0 a1 K0 K1 B) {g : Nat} (hg : a1.ah = some ⟨g, 0, none⟩) : Calls Tryz.prog 35 #[.pointer (some ⟨x, 0, none⟩), .int .i64 0] w fun e w' => e = .returned (.slice (some ⟨g, m.c0.known * 9, none⟩) (a1.hs.length - m.c0.known) (a1.ch - m.c0.known)) ∧ w' = w.drew := by
  obtain ⟨c0, c1, c2, c3, c4, c5, c6, c7, c8, c9, c10, c11, c12, c13, c14, c15, c16, c17, c18, c19, c20, c21, cf⟩ := dch_cells (q := 0) h.c0.blk rfl
  obtain ⟨d0, d1, d2, d3, d4, d5, d6, d7, d8, d9, d10, d11, d12, d13, d14, d15, d16, d17, d18, d19, d20, d21, df⟩ := dch_cells (q := 22) h.c1.blk rfl
  obtain ⟨-, -, -, hcap, -⟩ := h.row0
  obtain ⟨y, hy, hK⟩ := h.k0
  have hk := (List.getElem?_eq_some_iff.1 hy).1
  have hkh : K0.height = (m.c0.known : Int) := by rw [← hK]; exact (h.c1.good.heads _ y.hd (by rw [← h.c1.hsS, List.getElem?_map, hy]; rfl)).1
  have hlen : a1.hs.length ≤ B + 1 := by rw [show a1.hs.length = m.c1.heads.length from by rw [← h.c1.hsS]; simp]; exact h.c1.good.lh
  simp only [Nat.zero_add] at c14
  simp only [Nat.reduceAdd] at d13
  rw [hkh] at c14
  rw [hg] at d13
  clear c0 c1 c2 c3 c4 c5 c6 c7 c8 c9 c10 c11 c12 c13 c15 c16 c17 c18 c19 c20 c21 cf d0 d1 d2 d3 d4 d5 d6 d7 d8 d9 d10 d11 d12 d14 d15 d16 d17 d18 d19 d20 d21 df hkh hy hK
  have hwz : IntKind.i64.wrap 1 = 1 := by decide
  have t1 : m.c0.known ≤ a1.hs.length := by omega
  have t2 : a1.hs.length ≤ a1.ch := hcap
  go_enter Tryz.func35, Tryz.ntmps35
  go_wp2_with fail
  refine (find0 h).mono ?_
  rintro e w2 ⟨rfl, rfl⟩
  go_wp2_with fail
  go_region_held3 (fun w' => w'.cell? ⟨x, 35, none⟩ = some (.slice (some ⟨g, 0, none⟩) a1.hs.length a1.ch) ∧ w'.cell? ⟨x, 14, none⟩ = some (.int .u64 m.c0.known)) (go_keep) (fail)
  go_wp2_with fail
  go_ret
  exact ⟨rfl, rfl⟩

set_option maxRecDepth 100000 in
theorem others1 (h : Br lab w x m a0 a1 K0 K1 B) {g : Nat} (hg : a0.ah = some ⟨g, 0, none⟩) : Calls Tryz.prog 35 #[.pointer (some ⟨x, 0, none⟩), .int .i64 1] w fun e w' => e = .returned (.slice (some ⟨g, m.c1.known * 9, none⟩) (a0.hs.length - m.c1.known) (a0.ch - m.c1.known)) ∧ w' = w.drew := by
  obtain ⟨c0, c1, c2, c3, c4, c5, c6, c7, c8, c9, c10, c11, c12, c13, c14, c15, c16, c17, c18, c19, c20, c21, cf⟩ := dch_cells (q := 22) h.c1.blk rfl
  obtain ⟨d0, d1, d2, d3, d4, d5, d6, d7, d8, d9, d10, d11, d12, d13, d14, d15, d16, d17, d18, d19, d20, d21, df⟩ := dch_cells (q := 0) h.c0.blk rfl
  obtain ⟨-, -, -, hcap, -⟩ := h.row1
  obtain ⟨y, hy, hK⟩ := h.k1
  have hk := (List.getElem?_eq_some_iff.1 hy).1
  have hkh : K1.height = (m.c1.known : Int) := by rw [← hK]; exact (h.c0.good.heads _ y.hd (by rw [← h.c0.hsS, List.getElem?_map, hy]; rfl)).1
  have hlen : a0.hs.length ≤ B + 1 := by rw [show a0.hs.length = m.c0.heads.length from by rw [← h.c0.hsS]; simp]; exact h.c0.good.lh
  simp only [Nat.reduceAdd] at c14
  simp only [Nat.zero_add] at d13
  rw [hkh] at c14
  rw [hg] at d13
  clear c0 c1 c2 c3 c4 c5 c6 c7 c8 c9 c10 c11 c12 c13 c15 c16 c17 c18 c19 c20 c21 cf d0 d1 d2 d3 d4 d5 d6 d7 d8 d9 d10 d11 d12 d14 d15 d16 d17 d18 d19 d20 d21 df hkh hy hK
  have hwz : IntKind.i64.wrap 0 = 0 := by decide
  have t1 : m.c1.known ≤ a0.hs.length := by omega
  have t2 : a0.hs.length ≤ a0.ch := hcap
  go_enter Tryz.func35, Tryz.ntmps35
  go_wp2_with fail
  refine (find1 h).mono ?_
  rintro e w2 ⟨rfl, rfl⟩
  go_wp2_with fail
  go_region_held3 (fun w' => w'.cell? ⟨x, 13, none⟩ = some (.slice (some ⟨g, 0, none⟩) a0.hs.length a0.ch) ∧ w'.cell? ⟨x, 36, none⟩ = some (.int .u64 m.c1.known)) (go_keep) (fail)
  go_wp2_with fail
  go_ret
  exact ⟨rfl, rfl⟩


set_option maxRecDepth 100000 in
set_option maxHeartbeats 1600000 in
theorem bstep0 (h : Br lab w x m a0 a1 K0 K1 B) (hB : B ≤ 8000000) (ht : 0 ≤ m.taken ∧ m.taken ≤ 9000000) {f g o ln ch : Nat} (O : Others lab 1 w x a1.hs f g o ln B) (hch : ln ≤ ch) (hf : f ≤ m.c0.known) (hn : 0 ≤ n ∧ n < 18446744073709551616) :
    Calls Tryz.prog 34 #[.pointer (some ⟨x, 0, none⟩), .int .i64 0, stepAgg k n p, .slice (some ⟨g, o, none⟩) ln ch] w fun e w' => e = .returned (.tuple #[.int .u64 (doM m 0 k n p).2.1, .int .i64 (doM m 0 k n p).2.2]) ∧ BrTo lab w x (doM m 0 k n p).1 (B + 4) w' := by
  have hxl : x < w.heap.size := blk_lt h.c0.blk
  obtain ⟨w1, hw1⟩ : ∃ w1 : World, w1 = w.alloc (.cells (stepArr k n p) 30) := ⟨_, rfl⟩
  have g1 : w.grownBy w1 none := by rw [hw1]; exact World.grownBy_alloc _ _ _
  have hX1 : w1.heap[w.heap.size]? = some (.cells (stepArr k n p) 30 (0, 0)) := by rw [hw1]; exact heap_alloc_new w _
  have hb1 : Br (labN lab w.heap.size) w1 x m a0 a1 K0 K1 B := h.fresh g1
  have hstep := step_all0 (k := k) (n := n) (p := p) hb1 hB (O.grown g1) hch hf hn
  obtain ⟨x0, x1, x2, x3, x4, x5, x6, x7, x8, xf⟩ := blk9c hX1
  obtain ⟨r, hr⟩ : ∃ r, doC m.c0 k n p K0 a1.hs.length = r := ⟨_, rfl⟩
  rw [hr] at hstep
  have hM : doM m 0 k n p = ({ c0 := r.1, c1 := m.c1, taken := if r.2.2 = 0 then m.taken + 1 else m.taken }, r.2.1, r.2.2) := by
    have hkn : knownHd m.c0 m.c1 = K0 := by
      obtain ⟨z, hz, hzK⟩ := h.k0
      unfold knownHd
      rw [← h.c1.hsS, List.getElem?_map, hz, ← hzK]
      rfl
    have hln : m.c1.heads.length = a1.hs.length := by rw [← h.c1.hsS]; simp
    unfold doM
    simp only [hkn, hln, hr]
    simp
  go_enter Tryz.func34, Tryz.ntmps34
  go_wp2_with fail
  rw [← hw1]
  refine (find0 hb1).mono ?_
  rintro e w2 ⟨rfl, rfl⟩
  clear hw1
  go_wp2_with fail
  refine hstep.mono ?_
  rintro e w3 ⟨rfl, y, hy, lab3, a3, hd3, st3⟩
  clear x0 x1 x2 x3 x4 x5 x6 x7 x8 xf hX1
  have hk3 : ∃ z, a3.hs[m.c1.known]? = some z ∧ z.hd = K1 := by
    obtain ⟨z, hz, hzK⟩ := h.k1
    have h1 : m.c0.heads[m.c1.known]? = some K1 := by rw [← h.c0.hsS, List.getElem?_map, hz, ← hzK]; rfl
    have h2 : r.1.heads[m.c1.known]? = some K1 := by
      rw [← hr, doC_heads _ _ _ _ _ _ _ (List.getElem?_eq_some_iff.1 h1).1]; exact h1
    rw [← hd3.hsS, List.getElem?_map] at h2
    obtain ⟨z3, e1, e2⟩ := Option.map_eq_some_iff.1 h2
    exact ⟨z3, e1, e2⟩
  have hhh : r.1.hd.height + 1 = r.1.heads.length := by
    rw [← hr]
    exact doC_height _ _ _ _ _ _ h.h0 (by have := h.c0.good.lh; omega)
  have hb3 := br0 hb1 (by omega) hd3 st3 ⟨y, hy, rfl⟩ hhh hk3
  have hst : StepB x lab lab3 w w3 := (StepB.of (grown_stepL (l := 1) (x := x) g1) (.inl rfl) (by rw [h.lx]; decide)).trans (StepB.of st3 (.inl rfl) (by rw [hb1.lx]; decide))
  have hcell : w3.cell? ⟨x, 44, none⟩ = some (.int .i64 m.taken) := blkq_cell (pre := dchCells r.1 y.hd a3 ++ dchCells m.c1 K1 a1) (post := []) (cs := [Value.int .i64 m.taken]) (by simpa using hb3.c1.blk) (q := 44) rfl 0 _ rfl
  have hfree : w3.frozen? ⟨x, 44, none⟩ = false := blkq_free hb3.c0.blk 44
  have hadd := add_any hcell hfree (by omega)
  obtain ⟨r1, rn, re⟩ := r
  dsimp only at hM
  clear hr hstep hk3 hhh hy
  dsimp only
  have hre : (re == 0) = true ∨ (re == 0) = false := by cases (re == 0) <;> simp
  rcases hre with hre | hre
  · obtain rfl : re = 0 := by simpa using hre
    go_wp2_with fail
    refine hadd.mono ?_
    rintro e w4 ⟨rfl, rfl⟩
    go_wp2_with fail
    go_ret2
    simp only [hM, if_pos]
    refine ⟨rfl, lab3, _, _, _, _, br_taken hb3 (m.taken + 1), hst.trans ?_⟩
    refine ⟨rfl, rfl, rfl, by rw [setCell_size]; exact Nat.le_refl _, fun _ _ => rfl, fun k hk e => setCell_other _ _ _ (fun e1 => ?_), fun k h1 h2 => by rw [setCell_size] at h2; omega, fun k hk e => setCell_other _ _ _ (fun e1 => ?_)⟩
    all_goals
      have := hb3.lx
      simp only at e1
      rw [← e1] at this
      omega
  · have hre' : ¬ re = 0 := by simpa using hre
    go_wp2_with fail
    go_ret2
    simp only []
    exact ⟨rfl, lab3, _, _, _, _, hb3, hst⟩


set_option maxRecDepth 100000 in
set_option maxHeartbeats 1600000 in
theorem bstep1 (h : Br lab w x m a0 a1 K0 K1 B) (hB : B ≤ 8000000) (ht : 0 ≤ m.taken ∧ m.taken ≤ 9000000) {f g o ln ch : Nat} (O : Others lab 2 w x a0.hs f g o ln B) (hch : ln ≤ ch) (hf : f ≤ m.c1.known) (hn : 0 ≤ n ∧ n < 18446744073709551616) :
    Calls Tryz.prog 34 #[.pointer (some ⟨x, 0, none⟩), .int .i64 1, stepAgg k n p, .slice (some ⟨g, o, none⟩) ln ch] w fun e w' => e = .returned (.tuple #[.int .u64 (doM m 1 k n p).2.1, .int .i64 (doM m 1 k n p).2.2]) ∧ BrTo lab w x (doM m 1 k n p).1 (B + 4) w' := by
  have hxl : x < w.heap.size := blk_lt h.c0.blk
  obtain ⟨w1, hw1⟩ : ∃ w1 : World, w1 = w.alloc (.cells (stepArr k n p) 30) := ⟨_, rfl⟩
  have g1 : w.grownBy w1 none := by rw [hw1]; exact World.grownBy_alloc _ _ _
  have hX1 : w1.heap[w.heap.size]? = some (.cells (stepArr k n p) 30 (0, 0)) := by rw [hw1]; exact heap_alloc_new w _
  have hb1 : Br (labN lab w.heap.size) w1 x m a0 a1 K0 K1 B := h.fresh g1
  have hstep := step_all1 (k := k) (n := n) (p := p) hb1 hB (O.grown g1) hch hf hn
  obtain ⟨x0, x1, x2, x3, x4, x5, x6, x7, x8, xf⟩ := blk9c hX1
  obtain ⟨r, hr⟩ : ∃ r, doC m.c1 k n p K1 a0.hs.length = r := ⟨_, rfl⟩
  rw [hr] at hstep
  have hM : doM m 1 k n p = ({ c0 := m.c0, c1 := r.1, taken := if r.2.2 = 0 then m.taken + 1 else m.taken }, r.2.1, r.2.2) := by
    have hkn : knownHd m.c1 m.c0 = K1 := by
      obtain ⟨z, hz, hzK⟩ := h.k1
      unfold knownHd
      rw [← h.c0.hsS, List.getElem?_map, hz, ← hzK]
      rfl
    have hln : m.c0.heads.length = a0.hs.length := by rw [← h.c0.hsS]; simp
    unfold doM
    simp only [hkn, hln, hr]
    simp
  go_enter Tryz.func34, Tryz.ntmps34
  go_wp2_with fail
  rw [← hw1]
  refine (find1 hb1).mono ?_
  rintro e w2 ⟨rfl, rfl⟩
  clear hw1
  go_wp2_with fail
  refine hstep.mono ?_
  rintro e w3 ⟨rfl, y, hy, lab3, a3, hd3, st3⟩
  clear x0 x1 x2 x3 x4 x5 x6 x7 x8 xf hX1
  have hk3 : ∃ z, a3.hs[m.c0.known]? = some z ∧ z.hd = K0 := by
    obtain ⟨z, hz, hzK⟩ := h.k0
    have h1 : m.c1.heads[m.c0.known]? = some K0 := by rw [← h.c1.hsS, List.getElem?_map, hz, ← hzK]; rfl
    have h2 : r.1.heads[m.c0.known]? = some K0 := by
      rw [← hr, doC_heads _ _ _ _ _ _ _ (List.getElem?_eq_some_iff.1 h1).1]; exact h1
    rw [← hd3.hsS, List.getElem?_map] at h2
    obtain ⟨z3, e1, e2⟩ := Option.map_eq_some_iff.1 h2
    exact ⟨z3, e1, e2⟩
  have hhh : r.1.hd.height + 1 = r.1.heads.length := by
    rw [← hr]
    exact doC_height _ _ _ _ _ _ h.h1 (by have := h.c1.good.lh; omega)
  have hb3 := br1 hb1 (by omega) hd3 st3 ⟨y, hy, rfl⟩ hhh hk3
  have hst : StepB x lab lab3 w w3 := (StepB.of (grown_stepL (l := 2) (x := x) g1) (.inr rfl) (by rw [h.lx]; decide)).trans (StepB.of st3 (.inr rfl) (by rw [hb1.lx]; decide))
  have hcell : w3.cell? ⟨x, 44, none⟩ = some (.int .i64 m.taken) := blkq_cell (pre := dchCells m.c0 K0 a0 ++ dchCells r.1 y.hd a3) (post := []) (cs := [Value.int .i64 m.taken]) (by simpa using hb3.c1.blk) (q := 44) rfl 0 _ rfl
  have hfree : w3.frozen? ⟨x, 44, none⟩ = false := blkq_free hb3.c0.blk 44
  have hadd := add_any hcell hfree (by omega)
  obtain ⟨r1, rn, re⟩ := r
  dsimp only at hM
  clear hr hstep hk3 hhh hy
  dsimp only
  have hre : (re == 0) = true ∨ (re == 0) = false := by cases (re == 0) <;> simp
  rcases hre with hre | hre
  · obtain rfl : re = 0 := by simpa using hre
    go_wp2_with fail
    refine hadd.mono ?_
    rintro e w4 ⟨rfl, rfl⟩
    go_wp2_with fail
    go_ret2
    simp only [hM, if_pos]
    refine ⟨rfl, lab3, _, _, _, _, br_taken hb3 (m.taken + 1), hst.trans ?_⟩
    refine ⟨rfl, rfl, rfl, by rw [setCell_size]; exact Nat.le_refl _, fun _ _ => rfl, fun k hk e => setCell_other _ _ _ (fun e1 => ?_), fun k h1 h2 => by rw [setCell_size] at h2; omega, fun k hk e => setCell_other _ _ _ (fun e1 => ?_)⟩
    all_goals
      have := hb3.lx
      simp only at e1
      rw [← e1] at this
      omega
  · have hre' : ¬ re = 0 := by simpa using hre
    go_wp2_with fail
    go_ret2
    simp only []
    exact ⟨rfl, lab3, _, _, _, _, hb3, hst⟩


theorem step_cells {lab : Nat → Nat} {w1 w3 : World} {z B : Nat} {m' : Mod} (hto : BrTo lab w1.drew.drew x m' B w3) (hl : lab z = 0) (hX : w1.heap[z]? = some (.cells (stepArr k n p) 30 (0, 0))) :
    w3.cell? ⟨z, 0, none⟩ = some (.int .i64 k) ∧ w3.cell? ⟨z, 1, none⟩ = some (.int .u64 n) ∧ w3.cell? ⟨z, 2, none⟩ = some (.int .u64 p.seq) ∧ w3.cell? ⟨z, 3, none⟩ = some (.int .i64 p.src) ∧ w3.cell? ⟨z, 4, none⟩ = some (.int .i64 p.dst) ∧ w3.cell? ⟨z, 5, none⟩ = some (.int .i64 p.coin) ∧ w3.cell? ⟨z, 6, none⟩ = some (.int .u64 p.amount) ∧ w3.cell? ⟨z, 7, none⟩ = some (.int .u64 p.height) ∧ w3.cell? ⟨z, 8, none⟩ = some (.int .u64 p.time) ∧ ∀ k, w3.frozen? ⟨z, k, none⟩ = false := by
  obtain ⟨lab', b0, b1, k0, k1, hb, st⟩ := hto
  exact blk9c ((st.block z (blk_lt hX) hl).trans hX)

theorem BrTo.from {lab : Nat → Nat} {w w1 w3 : World} {m' : Mod} {B : Nat} (hto : BrTo (labN lab w.heap.size) w1.drew.drew x m' B w3) (g1 : w.grownBy w1 none) (hx : lab x = 3) : BrTo lab w x m' B w3 := by
  obtain ⟨lab', b0, b1, k0, k1, hb, st⟩ := hto
  exact ⟨lab', b0, b1, k0, k1, hb, (StepB.of (grown_stepL (l := 1) (x := x) (grown_drew (grown_drew g1))) (.inl rfl) (by rw [hx]; decide)).trans st⟩


set_option maxRecDepth 100000 in
set_option maxHeartbeats 1600000 in
theorem do0 (h : Br lab w x m a0 a1 K0 K1 B) (hB : B ≤ 8000000) (ht : 0 ≤ m.taken ∧ m.taken ≤ 9000000) (hn : 0 ≤ n ∧ n < 18446744073709551616) :
    Calls Tryz.prog 21 #[.pointer (some ⟨x, 0, none⟩), .int .i64 0, stepAgg k n p] w fun e w' => e = .returned (.tuple #[.int .u64 (doM m 0 k n p).2.1, .int .i64 (doM m 0 k n p).2.2]) ∧ BrTo lab w x (doM m 0 k n p).1 (B + 4) w' := by
  obtain ⟨w1, hw1⟩ : ∃ w1 : World, w1 = w.alloc (.cells (stepArr k n p) 30) := ⟨_, rfl⟩
  have g1 : w.grownBy w1 none := by rw [hw1]; exact World.grownBy_alloc _ _ _
  have hX1 : w1.heap[w.heap.size]? = some (.cells (stepArr k n p) 30 (0, 0)) := by rw [hw1]; exact heap_alloc_new w _
  have hb1 : Br (labN lab w.heap.size) w1 x m a0 a1 K0 K1 B := h.fresh g1
  have hb1d : Br (labN lab w.heap.size) w1.drew x m a0 a1 K0 K1 B := hb1.grown (grown_drew (grown_refl w1 none))
  have hb2d : Br (labN lab w.heap.size) w1.drew.drew x m a0 a1 K0 K1 B := hb1d.grown (grown_drew (grown_refl _ none))
  obtain ⟨g, hg, _, hcap, _⟩ := h.row0
  have hoth := others0 hb1d hg
  have hstep := bstep0 (k := k) (n := n) (p := p) hb2d hB ht (hb2d.others0 hg) (ch := a1.ch - m.c0.known) (by omega) (Nat.le_refl _) hn
  obtain ⟨x0, x1, x2, x3, x4, x5, x6, x7, x8, xf⟩ := blk9c hX1
  have hlz : labN lab w.heap.size w.heap.size = 0 := labN_new (Nat.le_refl _)
  have hzl : w.heap.size < w1.heap.size := blk_lt hX1
  obtain ⟨rm, hrm⟩ : ∃ r, doM m 0 k n p = r := ⟨_, rfl⟩
  rw [hrm] at hstep ⊢
  clear hrm
  obtain ⟨r1, rn, re⟩ := rm
  go_enter Tryz.func21, Tryz.ntmps21
  go_wp2_with fail
  rw [← hw1]
  clear hw1
  go_region_held3 (fun w' => w'.cell? ⟨w.heap.size, 0, none⟩ = some (.int .i64 k) ∧ w'.cell? ⟨w.heap.size, 1, none⟩ = some (.int .u64 n) ∧ w'.cell? ⟨w.heap.size, 2, none⟩ = some (.int .u64 p.seq) ∧ w'.cell? ⟨w.heap.size, 3, none⟩ = some (.int .i64 p.src) ∧ w'.cell? ⟨w.heap.size, 4, none⟩ = some (.int .i64 p.dst) ∧ w'.cell? ⟨w.heap.size, 5, none⟩ = some (.int .i64 p.coin) ∧ w'.cell? ⟨w.heap.size, 6, none⟩ = some (.int .u64 p.amount) ∧ w'.cell? ⟨w.heap.size, 7, none⟩ = some (.int .u64 p.height) ∧ w'.cell? ⟨w.heap.size, 8, none⟩ = some (.int .u64 p.time)) (go_keep)
    (first
      | (go_at_call 35; refine hoth.mono ?_; rintro e w2 ⟨rfl, rfl⟩)
      | (go_at_call 34; refine hstep.mono ?_; rintro e w3 ⟨rfl, hto⟩; obtain ⟨y0, y1, y2, y3, y4, y5, y6, y7, y8, yf⟩ := step_cells hto hlz hX1))
  go_wp2_with fail
  go_ret2
  exact ⟨rfl, hto.from g1 h.lx⟩


set_option maxRecDepth 100000 in
set_option maxHeartbeats 1600000 in
theorem do1 (h : Br lab w x m a0 a1 K0 K1 B) (hB : B ≤ 8000000) (ht : 0 ≤ m.taken ∧ m.taken ≤ 9000000) (hn : 0 ≤ n ∧ n < 18446744073709551616) :
    Calls Tryz.prog 21 #[.pointer (some ⟨x, 0, none⟩), .int .i64 1, stepAgg k n p] w fun e w' => e = .returned (.tuple #[.int .u64 (doM m 1 k n p).2.1, .int .i64 (doM m 1 k n p).2.2]) ∧ BrTo lab w x (doM m 1 k n p).1 (B + 4) w' := by
  obtain ⟨w1, hw1⟩ : ∃ w1 : World, w1 = w.alloc (.cells (stepArr k n p) 30) := ⟨_, rfl⟩
  have g1 : w.grownBy w1 none := by rw [hw1]; exact World.grownBy_alloc _ _ _
  have hX1 : w1.heap[w.heap.size]? = some (.cells (stepArr k n p) 30 (0, 0)) := by rw [hw1]; exact heap_alloc_new w _
  have hb1 : Br (labN lab w.heap.size) w1 x m a0 a1 K0 K1 B := h.fresh g1
  have hb1d : Br (labN lab w.heap.size) w1.drew x m a0 a1 K0 K1 B := hb1.grown (grown_drew (grown_refl w1 none))
  have hb2d : Br (labN lab w.heap.size) w1.drew.drew x m a0 a1 K0 K1 B := hb1d.grown (grown_drew (grown_refl _ none))
  obtain ⟨g, hg, _, hcap, _⟩ := h.row1
  have hoth := others1 hb1d hg
  have hstep := bstep1 (k := k) (n := n) (p := p) hb2d hB ht (hb2d.others1 hg) (ch := a0.ch - m.c1.known) (by omega) (Nat.le_refl _) hn
  obtain ⟨x0, x1, x2, x3, x4, x5, x6, x7, x8, xf⟩ := blk9c hX1
  have hlz : labN lab w.heap.size w.heap.size = 0 := labN_new (Nat.le_refl _)
  have hzl : w.heap.size < w1.heap.size := blk_lt hX1
  obtain ⟨rm, hrm⟩ : ∃ r, doM m 1 k n p = r := ⟨_, rfl⟩
  rw [hrm] at hstep ⊢
  clear hrm
  obtain ⟨r1, rn, re⟩ := rm
  go_enter Tryz.func21, Tryz.ntmps21
  go_wp2_with fail
  rw [← hw1]
  clear hw1
  go_region_held3 (fun w' => w'.cell? ⟨w.heap.size, 0, none⟩ = some (.int .i64 k) ∧ w'.cell? ⟨w.heap.size, 1, none⟩ = some (.int .u64 n) ∧ w'.cell? ⟨w.heap.size, 2, none⟩ = some (.int .u64 p.seq) ∧ w'.cell? ⟨w.heap.size, 3, none⟩ = some (.int .i64 p.src) ∧ w'.cell? ⟨w.heap.size, 4, none⟩ = some (.int .i64 p.dst) ∧ w'.cell? ⟨w.heap.size, 5, none⟩ = some (.int .i64 p.coin) ∧ w'.cell? ⟨w.heap.size, 6, none⟩ = some (.int .u64 p.amount) ∧ w'.cell? ⟨w.heap.size, 7, none⟩ = some (.int .u64 p.height) ∧ w'.cell? ⟨w.heap.size, 8, none⟩ = some (.int .u64 p.time)) (go_keep)
    (first
      | (go_at_call 35; refine hoth.mono ?_; rintro e w2 ⟨rfl, rfl⟩)
      | (go_at_call 34; refine hstep.mono ?_; rintro e w3 ⟨rfl, hto⟩; obtain ⟨y0, y1, y2, y3, y4, y5, y6, y7, y8, yf⟩ := step_cells hto hlz hX1))
  go_wp2_with fail
  go_ret2
  exact ⟨rfl, hto.from g1 h.lx⟩

end

end Go.Proofs.YtmfdhcnnhlchbaaGreat
