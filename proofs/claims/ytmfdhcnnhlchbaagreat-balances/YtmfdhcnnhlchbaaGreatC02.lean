import Derived.Test.YtmfdhcnnhlchbaaGreatC01
import Derived.Deep.QuietTactic
import Derived.BigQuiet
import Derived.BigRegion
namespace Go.Proofs.YtmfdhcnnhlchbaaGreat
open Go.RowKit

def ansCells (a : Int × Bool) : List Value := [.int .u64 a.1, .bool a.2]

/-- A header in a row: what it says, and the two slices that hold its lists. -/
structure HdV where
  hd : Hd
  ap : Option Addr
  cp : Nat
  aa : Option Addr
  ca : Nat

abbrev HdV.vp (h : HdV) : Value := .slice h.ap h.hd.packets.length h.cp
abbrev HdV.va (h : HdV) : Value := .slice h.aa h.hd.answers.length h.ca

def HdV.cells (h : HdV) : List Value := [.int .u64 h.hd.height, .int .u64 h.hd.time, .bool h.hd.isOpen, .int .u64 h.hd.nextRecv, h.vp, h.va]

/-- Where a chain's own lists lie. -/
structure At where
  ap : Option Addr
  cp : Nat
  aa : Option Addr
  ca : Nat
  ah : Option Addr
  ch : Nat
  hs : List HdV

abbrev At.vp (a : At) (S : Ch) : Value := .slice a.ap S.hd.packets.length a.cp
abbrev At.va (a : At) (S : Ch) : Value := .slice a.aa S.hd.answers.length a.ca
abbrev At.vh (a : At) : Value := .slice a.ah a.hs.length a.ch

def chCells (S : Ch) (a : At) : List Value :=
  [.int .u64 S.hd.height, .int .u64 S.hd.time, .bool S.hd.isOpen, .int .u64 S.hd.nextRecv, a.vp S, a.va S, .int .i64 S.n,
   .int .u64 S.h0, .int .u64 S.h1, .int .u64 S.h2, .int .u64 S.h3, .int .u64 S.h4, .int .u64 S.h5,
   .int .u64 S.locked, .int .u64 S.about, .int .u64 S.nextSend, a.vh, .int .i64 S.known]

abbrev tAns : TypeId := 149
abbrev tHdr : TypeId := 60
abbrev tCh : TypeId := 65

def ownsPk (w : World) (v : Value) (l : List Pk) : Prop := w.ownsRow 0 tPk 7 v l.length (l.flatMap Pk.cells)
def ownsAns (w : World) (v : Value) (l : List (Int × Bool)) : Prop := w.ownsRow 0 tAns 2 v l.length (l.flatMap ansCells)

structure RefCh (own : Nat → Nat) (o : Nat) (w : World) (b : Nat) (S : Ch) (a : At) : Prop where
  blk : w.heap[b]? = some (.cells (chCells S a).toArray tCh (0, 0))
  lb : own b = o
  pk : ownsPk w (a.vp S) S.hd.packets
  lpk : labelled own (a.vp S) o
  an : ownsAns w (a.va S) S.hd.answers
  lan : labelled own (a.va S) o
  hd : w.ownsRow 0 tHdr 6 a.vh a.hs.length (a.hs.flatMap HdV.cells)
  lhd : labelled own a.vh o
  heads : a.hs.map HdV.hd = S.heads
  each : ∀ h ∈ a.hs, ownsPk w h.vp h.hd.packets ∧ labelled own h.vp 0 ∧ ownsAns w h.va h.hd.answers ∧ labelled own h.va 0

/-- A chain stays as it was where the blocks of its owner, and those that nobody writes, do. -/
theorem RefCh.keep {own own' : Nat → Nat} {o : Nat} {w w' : World} {b : Nat} {S : Ch} {a : At} (h : RefCh own o w b S a)
    (hk : ∀ k, k < w.heap.size → own k = o ∨ own k = 0 → w'.heap[k]? = w.heap[k]?) (hl : ∀ k, k < w.heap.size → own' k = own k) : RefCh own' o w' b S a := by
  have hb : b < w.heap.size := (Array.getElem?_eq_some_iff.1 h.blk).1
  refine ⟨(hk b hb (.inl h.lb)).trans h.blk, (hl b hb).trans h.lb, ?_, ?_, ?_, ?_, ?_, ?_, h.heads, ?_⟩
  · exact owns_keep h.pk fun k e => hk k (owns_lt h.pk e) (.inl (h.lpk k e))
  · exact fun k e => (hl k (owns_lt h.pk e)).trans (h.lpk k e)
  · exact owns_keep h.an fun k e => hk k (owns_lt h.an e) (.inl (h.lan k e))
  · exact fun k e => (hl k (owns_lt h.an e)).trans (h.lan k e)
  · exact owns_keep h.hd fun k e => hk k (owns_lt h.hd e) (.inl (h.lhd k e))
  · exact fun k e => (hl k (owns_lt h.hd e)).trans (h.lhd k e)
  · intro x hx
    obtain ⟨e1, e2, e3, e4⟩ := h.each x hx
    exact ⟨owns_keep e1 fun k e => hk k (owns_lt e1 e) (.inr (e2 k e)), fun k e => (hl k (owns_lt e1 e)).trans (e2 k e),
      owns_keep e3 fun k e => hk k (owns_lt e3 e) (.inr (e4 k e)), fun k e => (hl k (owns_lt e3 e)).trans (e4 k e)⟩

theorem anss_one (l : List (Int × Bool)) : ∀ u ∈ l.flatMap ansCells, u.oneCell' = true := by
  intro u hu
  obtain ⟨p, _, h⟩ := List.mem_flatMap.1 hu
  simp only [ansCells, List.mem_cons, List.not_mem_nil, or_false] at h
  rcases h with rfl | rfl <;> rfl

/-- The cells of a chain's block. -/
theorem ch_cells {w : World} {b : Nat} {S : Ch} {a : At} (h : w.heap[b]? = some (.cells (chCells S a).toArray tCh (0, 0))) :
    w.cell? ⟨b, 0, none⟩ = some (.int .u64 S.hd.height) ∧ w.cell? ⟨b, 1, none⟩ = some (.int .u64 S.hd.time) ∧ w.cell? ⟨b, 2, none⟩ = some (.bool S.hd.isOpen) ∧
    w.cell? ⟨b, 3, none⟩ = some (.int .u64 S.hd.nextRecv) ∧ w.cell? ⟨b, 4, none⟩ = some (.slice a.ap S.hd.packets.length a.cp) ∧ w.cell? ⟨b, 5, none⟩ = some (.slice a.aa S.hd.answers.length a.ca) ∧ w.cell? ⟨b, 6, none⟩ = some (.int .i64 S.n) ∧
    w.cell? ⟨b, 7, none⟩ = some (.int .u64 S.h0) ∧ w.cell? ⟨b, 8, none⟩ = some (.int .u64 S.h1) ∧ w.cell? ⟨b, 9, none⟩ = some (.int .u64 S.h2) ∧
    w.cell? ⟨b, 10, none⟩ = some (.int .u64 S.h3) ∧ w.cell? ⟨b, 11, none⟩ = some (.int .u64 S.h4) ∧ w.cell? ⟨b, 12, none⟩ = some (.int .u64 S.h5) ∧
    w.cell? ⟨b, 13, none⟩ = some (.int .u64 S.locked) ∧ w.cell? ⟨b, 14, none⟩ = some (.int .u64 S.about) ∧ w.cell? ⟨b, 15, none⟩ = some (.int .u64 S.nextSend) ∧
    w.cell? ⟨b, 16, none⟩ = some (.slice a.ah a.hs.length a.ch) ∧ w.cell? ⟨b, 17, none⟩ = some (.int .i64 S.known) ∧ (∀ k, w.frozen? ⟨b, k, none⟩ = false) := by
  refine ⟨?_, ?_, ?_, ?_, ?_, ?_, ?_, ?_, ?_, ?_, ?_, ?_, ?_, ?_, ?_, ?_, ?_, ?_, ?_⟩
  all_goals first
    | (intro k; simp [World.frozen?, h])
    | simp [World.cell?, h, chCells]

theorem infoAns : (Tryz.prog.info? 149).map (fun i => (i.zero, i.size, i.bytes)) = some (some (.agg #[.int .u64 0, .bool false]), 2, 16) := by kernel_rfl
theorem infoHdr : (Tryz.prog.info? 60).map (fun i => (i.zero, i.size, i.bytes)) = some (some (.agg #[.int .u64 0, .int .u64 0, .bool false, .int .u64 0, .slice none 0 0, .slice none 0 0]), 6, 80) := by kernel_rfl

end Go.Proofs.YtmfdhcnnhlchbaaGreat

namespace Go.Proofs.YtmfdhcnnhlchbaaGreat
open Go.RowKit

theorem app_after {w3 w4 : World} {X O : Obj} {b : Nat} {row : Option Nat} (hB3 : w3.heap[b]? = some O) (hg : (w3.alloc X).drew.grownBy w4 row) (hne : some b ≠ row) : w4.heap[b]? = some O := by
  have hb := blk_lt hB3
  rw [hg.block b (by simp; omega) hne]
  exact (heap_alloc_old w3 X hb).trans hB3

theorem src6 (w : World) (t : TypeId) (x0 x1 x2 x3 x4 x5 : Value) : srcRow (w.alloc (.cells #[x0, x1, x2, x3, x4, x5] t)).drew 6 (.slice (some ⟨w.heap.size, 0, none⟩) 1 1) 1 [x0, x1, x2, x3, x4, x5] := by
  refine ⟨rfl, .inr ⟨_, _, rfl, ?_⟩⟩
  intro j u hj
  rw [Addr.add_lit]
  have : ((w.alloc (.cells #[x0, x1, x2, x3, x4, x5] t)).drew).heap[w.heap.size]? = some (.cells #[x0, x1, x2, x3, x4, x5] t (0, 0)) := heap_alloc_new w _
  rw [cell_of_row _ _ _ _ _ _ this]
  simpa using hj

theorem hd_one (x0 x1 x2 x3 : Value) (a1 a2 : Option Addr) (n1 k1 n2 k2 : Nat) (h0 : x0.oneCell' = true) (h1 : x1.oneCell' = true) (h2 : x2.oneCell' = true) (h3 : x3.oneCell' = true) : ∀ u ∈ [x0, x1, x2, x3, .slice a1 n1 k1, .slice a2 n2 k2], u.oneCell' = true := by
  intro u hu
  simp only [List.mem_cons, List.not_mem_nil, or_false] at hu
  rcases hu with rfl | rfl | rfl | rfl | rfl | rfl
  all_goals first | assumption | rfl

theorem commit_done {own : Nat → Nat} {o : Nat} {w : World} {b : Nat} {S : Ch} {a : At} (h : RefCh own o w b S a) (ho : o ≠ 0)
    {w3 w4 : World} {a1 a2 a4 : Option Addr} {k1 k2 k4 : Nat} {X : Obj}
    (hos : w3.os = w.os) (htape : w3.tape = w.tape) (hout : w3.output = w.output)
    (hlt : w.heap.size ≤ w3.heap.size) (hold : ∀ k, k < w.heap.size → w3.heap[k]? = w.heap[k]?)
    (p1 : ownsPk w3 (.slice a1 S.hd.packets.length k1) S.hd.packets) (n1 : ∀ k, (Value.slice a1 S.hd.packets.length k1).ownBlock = some k → w.heap.size ≤ k)
    (p2 : ownsAns w3 (.slice a2 S.hd.answers.length k2) S.hd.answers) (n2 : ∀ k, (Value.slice a2 S.hd.answers.length k2).ownBlock = some k → w.heap.size ≤ k)
    (grow4 : (w3.alloc X).drew.grownBy w4 (Value.slice a.ah a.hs.length a.ch).ownBlock)
    (own4 : w4.ownsRow 0 tHdr 6 (.slice a4 (a.hs.length + 1) k4) (a.hs.length + 1) (a.hs.flatMap HdV.cells ++ HdV.cells ⟨S.hd, a1, k1, a2, k2⟩))
    (lab4 : fresh (w3.alloc X).drew (.slice a.ah a.hs.length a.ch) (.slice a4 (a.hs.length + 1) k4)) :
    ∃ own' a', RefCh own' o (w4.setCell ⟨b, 16, none⟩ (.slice a4 (a.hs.length + 1) k4)) b { S with heads := S.heads ++ [S.hd] } a' ∧ Step own own' o w (w4.setCell ⟨b, 16, none⟩ (.slice a4 (a.hs.length + 1) k4)) := by
  have hbl := blk_lt h.blk
  have hnb : some b ≠ (Value.slice a.ah a.hs.length a.ch).ownBlock := owns_ne h.blk h.hd (by decide)
  have hB4 : w4.heap[b]? = some (.cells (chCells S a).toArray tCh (0, 0)) := app_after ((hold b hbl).trans h.blk) grow4 hnb
  have hnb4 : some b ≠ (Value.slice a4 (a.hs.length + 1) k4).ownBlock := owns_ne hB4 own4 (by decide)
  have hsz : w3.heap.size + 1 ≤ w4.heap.size := by have := grow4.size; simp at this; omega
  -- blocks of w3 that are neither the chain's nor the row's stay
  have hkeep : ∀ k, k < w3.heap.size → k ≠ b → some k ≠ (Value.slice a.ah a.hs.length a.ch).ownBlock → (w4.setCell ⟨b, 16, none⟩ (.slice a4 (a.hs.length + 1) k4)).heap[k]? = w3.heap[k]? := by
    intro k hk hkb hkr
    rw [setCell_other _ _ _ hkb, grow4.block k (by simp; omega) hkr]
    exact heap_alloc_old w3 X hk
  refine ⟨fun k => if k < w.heap.size then own k else if some k = (Value.slice a4 (a.hs.length + 1) k4).ownBlock then o else 0, { a with ah := a4, ch := k4, hs := a.hs ++ [⟨S.hd, a1, k1, a2, k2⟩] }, ⟨?_, ?_, ?_, ?_, ?_, ?_, ?_, ?_, ?_, ?_⟩, ⟨?_, ?_, ?_, ?_, ?_, ?_⟩⟩
  · rw [setCell_same hB4]
    simp [chCells]
  · simp [hbl, h.lb]
  · refine owns_keep h.pk fun k e => ?_
    have hk := owns_lt h.pk e
    rw [hkeep k (by omega) (fun e1 => owns_ne h.blk h.pk (by decide) (by rw [e, e1])) (fun e1 => ?_), hold k hk]
    rw [← e] at e1
    rcases h.pk.2 with ⟨e2, _⟩ | ⟨g, cap, cur, e2, _, hg, _⟩
    · rw [e2] at e; simp [Value.ownBlock] at e
    · rw [e2] at e1
      exact owns_ne hg h.hd (by decide) e1
  · intro k e
    have hk := owns_lt h.pk e
    simp [hk, h.lpk k e]
  · refine owns_keep h.an fun k e => ?_
    have hk := owns_lt h.an e
    rw [hkeep k (by omega) (fun e1 => owns_ne h.blk h.an (by decide) (by rw [e, e1])) (fun e1 => ?_), hold k hk]
    rw [← e] at e1
    rcases h.an.2 with ⟨e2, _⟩ | ⟨g, cap, cur, e2, _, hg, _⟩
    · rw [e2] at e; simp [Value.ownBlock] at e
    · rw [e2] at e1
      exact owns_ne hg h.hd (by decide) e1
  · intro k e
    have hk := owns_lt h.an e
    simp [hk, h.lan k e]
  · refine owns_keep (w := w4) ?_ fun k e => ?_
    · simpa [HdV.cells, At.vh] using own4
    · rw [setCell_other]
      intro e1
      simp only at e1
      subst e1
      exact hnb4 (by simpa [At.vh] using e.symm)
  · intro k e
    simp only [At.vh, List.length_append, List.length_cons, List.length_nil, Nat.zero_add] at e
    by_cases hk : k < w.heap.size
    · simp only [hk, if_true]
      rcases lab4 k e with e1 | e1
      · exact h.lhd k e1
      · simp at e1; omega
    · simp [hk, e]
  · simp [h.heads]
  · intro x hx
    simp only [List.mem_append, List.mem_singleton] at hx
    rcases hx with hx | rfl
    · obtain ⟨e1, e2, e3, e4⟩ := h.each x hx
      have hf : ∀ k, k < w.heap.size → own k = 0 → (w4.setCell ⟨b, 16, none⟩ (.slice a4 (a.hs.length + 1) k4)).heap[k]? = w.heap[k]? := by
        intro k hk h0
        rw [hkeep k (by omega) (fun e => ho (by rw [← h.lb, ← e, h0])) (fun e => ho (by rw [← h.lhd k e.symm, h0])), hold k hk]
      exact ⟨owns_keep e1 fun k e => hf k (owns_lt e1 e) (e2 k e), fun k e => by simp [owns_lt e1 e, e2 k e], owns_keep e3 fun k e => hf k (owns_lt e3 e) (e4 k e), fun k e => by simp [owns_lt e3 e, e4 k e]⟩
    · have hf : ∀ k, k < w3.heap.size → w.heap.size ≤ k → (w4.setCell ⟨b, 16, none⟩ (.slice a4 (a.hs.length + 1) k4)).heap[k]? = w3.heap[k]? := by
        intro k hk h0
        exact hkeep k hk (by omega) (fun e => by have := owns_lt h.hd e.symm; omega)
      have hl : ∀ k, k < w3.heap.size → w.heap.size ≤ k → (if k < w.heap.size then own k else if some k = (Value.slice a4 (a.hs.length + 1) k4).ownBlock then o else 0) = 0 := by
        intro k hk h0
        rw [if_neg (by omega), if_neg]
        intro e
        rcases lab4 k e.symm with e1 | e1
        · have := owns_lt h.hd e1; omega
        · simp at e1; omega
      exact ⟨owns_keep p1 fun k e => hf k (owns_lt p1 e) (n1 k e), fun k e => hl k (owns_lt p1 e) (n1 k e), owns_keep p2 fun k e => hf k (owns_lt p2 e) (n2 k e), fun k e => hl k (owns_lt p2 e) (n2 k e)⟩
  · exact (grow4.os).trans hos
  · exact (grow4.tape).trans htape
  · exact (grow4.output).trans hout
  · rw [setCell_size]; omega
  · intro k hk
    simp [hk]
  · intro k hk hne
    rw [hkeep k (by omega) (fun e => hne (by rw [e, h.lb])) (fun e => hne (h.lhd k e.symm)), hold k hk]

set_option maxRecDepth 100000 in
set_option maxHeartbeats 800000 in
theorem commit_spec {own : Nat → Nat} {o : Nat} {w : World} {b : Nat} {S : Ch} {a : At} (h : RefCh own o w b S a) (ho : o ≠ 0)
   (bp : S.hd.packets.length ≤ 1048576) (ba : S.hd.answers.length ≤ 1048576) (bh : a.hs.length ≤ 1048576) :
    Calls Tryz.prog 33 #[.pointer (some ⟨b, 0, none⟩)] w fun e w' => e = .returned (.tuple #[]) ∧ ∃ own' a', RefCh own' o w' b { S with heads := S.heads ++ [S.hd] } a' ∧ Step own own' o w w' := by
  obtain ⟨c0, c1, c2, c3, c4, c5, c6, c7, c8, c9, c10, c11, c12, c13, c14, c15, c16, c17, hf⟩ := ch_cells h.blk
  have hbl : b < w.heap.size := blk_lt h.blk
  obtain ⟨i0, hi0, z0, s0, y0⟩ := info_parts infoPk
  obtain ⟨i1, hi1, z1, s1, y1⟩ := info_parts infoAns
  obtain ⟨i2, hi2, z2, s2, y2⟩ := info_parts infoHdr
  go_enter Tryz.func33, Tryz.ntmps33
  go_wp2_with (at_builtin; refine wpList_append_rows rfl (.const (.slice none 0 0)) (.tmp 11) 57 rfl 28 i0 _ 7 56 Tryz.underlying57 hi0 z0 s0 y0 rfl (by decide) (.slice none 0 0) 0 [] rfl (World.ownsRow_nil _ _ _ _) (.slice a.ap S.hd.packets.length a.cp) S.hd.packets.length (S.hd.packets.flatMap Pk.cells) rfl ?hsrc (pks_one _) ?hb1 ?hb2 ?_)
  case hsrc => exact srcRow_of_owns (h.pk.alloc _)
  case hb1 => omega
  case hb2 => omega
  intro v1 w1 own1 grow1 lab1
  clear c0 c1 c2 c3 c4 c5 c6 c7 c8 c9 c10 c11 c12 c13 c14 c15 c16 c17 hf
  replace own1 : ownsPk w1 v1 S.hd.packets := by simpa [ownsPk] using own1
  have hB1 : w1.heap[b]? = some (.cells (chCells S a).toArray tCh (0, 0)) := by
    rw [grow1.block b (by simp; omega) (by simp [Value.ownBlock]), heap_alloc_old w _ hbl]; exact h.blk
  have hX1 := grow1.block w.heap.size (by simp) (by simp [Value.ownBlock])
  rw [heap_alloc_new w] at hX1
  obtain ⟨c0, c1, c2, c3, c4, c5, c6, c7, c8, c9, c10, c11, c12, c13, c14, c15, c16, c17, hf⟩ := ch_cells hB1
  obtain ⟨x0, x1, x2, x3, x4, x5, xf⟩ := blk6 hX1
  have hsz1 : w.heap.size < w1.heap.size := by have := grow1.size; simp at this; omega
  obtain ⟨a1, k1, hv1⟩ := owns_form own1
  rw [hv1]
  go_wp2_with (at_builtin; refine wpList_append_rows rfl (.const (.slice none 0 0)) (.tmp 18) 58 rfl 149 i1 _ 2 16 Tryz.underlying58 hi1 z1 s1 y1 rfl (by decide) (.slice none 0 0) 0 [] rfl (World.ownsRow_nil _ _ _ _) (.slice a.aa S.hd.answers.length a.ca) S.hd.answers.length (S.hd.answers.flatMap ansCells) rfl ?hsrc2 (anss_one _) ?hb3 ?hb4 ?_)
  case hsrc2 =>
    refine srcRow_of_owns (owns_keep h.an fun k e => ?_)
    have hk := owns_lt h.an e
    rw [setCell_other _ _ _ (by simp; omega), grow1.block k (by simp; omega) (by simp [Value.ownBlock]), heap_alloc_old w _ hk]
  case hb3 => omega
  case hb4 => omega
  intro v2 w2 own2 grow2 lab2
  clear c0 c1 c2 c3 c4 c5 c6 c7 c8 c9 c10 c11 c12 c13 c14 c15 c16 c17 hf x0 x1 x2 x3 x4 x5 xf
  replace own2 : ownsAns w2 v2 S.hd.answers := by simpa [ownsAns] using own2
  have hB2 : w2.heap[b]? = some (.cells (chCells S a).toArray tCh (0, 0)) := by
    rw [grow2.block b (by rw [setCell_size]; omega) (by simp [Value.ownBlock]), setCell_other _ _ _ (by simp; omega)]; exact hB1
  have hX2 := grow2.block w.heap.size (by rw [setCell_size]; omega) (by simp [Value.ownBlock])
  rw [setCell_same hX1] at hX2
  simp only [List.setIfInBounds_toArray, List.set_cons_succ, List.set_cons_zero] at hX2
  obtain ⟨c0, c1, c2, c3, c4, c5, c6, c7, c8, c9, c10, c11, c12, c13, c14, c15, c16, c17, hf⟩ := ch_cells hB2
  obtain ⟨x0, x1, x2, x3, x4, x5, xf⟩ := blk6 hX2
  have hsz2 : w.heap.size < w2.heap.size := by have := grow2.size; rw [setCell_size] at this; omega
  obtain ⟨a2, k2, hv2⟩ := owns_form own2
  rw [hv2]
  go_wp2_with fail
  obtain ⟨w3, hw3⟩ : ∃ w3 : World, w3 = w2.setCell ⟨w.heap.size, 5, none⟩ (.slice a2 S.hd.answers.length k2) := ⟨_, rfl⟩
  rw [← hw3]
  clear c0 c1 c2 c3 c4 c5 c6 c7 c8 c9 c10 c11 c12 c13 c14 c15 c16 c17 hf x0 x1 x2 x3 x4 x5 xf
  have hB3 : w3.heap[b]? = some (.cells (chCells S a).toArray tCh (0, 0)) := by
    rw [hw3, setCell_other _ _ _ (by simp; omega)]; exact hB2
  have hX3 : w3.heap[w.heap.size]? = some (.cells #[.int .u64 S.hd.height, .int .u64 S.hd.time, .bool S.hd.isOpen, .int .u64 S.hd.nextRecv, .slice a1 S.hd.packets.length k1, .slice a2 S.hd.answers.length k2] 60 (0, 0)) := by
    rw [hw3, setCell_same hX2, ← hv1]; rfl
  have hsz3 : w2.heap.size ≤ w3.heap.size := by rw [hw3, setCell_size]; exact Nat.le_refl _
  have hold : ∀ k, k < w.heap.size → w3.heap[k]? = w.heap[k]? := by
    intro k hk
    rw [hw3, setCell_other _ _ _ (by simp; omega), grow2.block k (by rw [setCell_size]; omega) (by simp [Value.ownBlock]), setCell_other _ _ _ (by simp; omega), grow1.block k (by simp; omega) (by simp [Value.ownBlock]), heap_alloc_old w _ hk]
  have hH3 : w3.ownsRow 0 tHdr 6 a.vh a.hs.length (a.hs.flatMap HdV.cells) := owns_keep h.hd fun k e => hold k (owns_lt h.hd e)
  have p1 : ownsPk w3 (.slice a1 S.hd.packets.length k1) S.hd.packets := by
    rw [← hv1]
    refine owns_keep own1 fun k e => ?_
    have hk := owns_lt own1 e
    have hne : k ≠ w.heap.size := fun e1 => owns_ne hX1 own1 (by decide) (by rw [e, e1])
    rw [hw3, setCell_other _ _ _ hne, grow2.block k (by rw [setCell_size]; omega) (by simp [Value.ownBlock]), setCell_other _ _ _ hne]
  have n1 : ∀ k, (Value.slice a1 S.hd.packets.length k1).ownBlock = some k → w.heap.size ≤ k := by
    intro k e
    rw [← hv1] at e
    rcases lab1 k e with e1 | e1
    · simp [Value.ownBlock] at e1
    · simp at e1; omega
  have p2 : ownsAns w3 (.slice a2 S.hd.answers.length k2) S.hd.answers := by
    rw [← hv2]
    refine owns_keep own2 fun k e => ?_
    have hne : k ≠ w.heap.size := fun e1 => owns_ne hX2 own2 (by decide) (by rw [e, e1])
    rw [hw3, setCell_other _ _ _ hne]
  have n2 : ∀ k, (Value.slice a2 S.hd.answers.length k2).ownBlock = some k → w.heap.size ≤ k := by
    intro k e
    rw [← hv2] at e
    rcases lab2 k e with e1 | e1
    · simp [Value.ownBlock] at e1
    · simp at e1; omega
  have ro : w3.os = w.os := by rw [hw3]; exact grow2.os.trans grow1.os
  have rt : w3.tape = w.tape := by rw [hw3]; exact grow2.tape.trans grow1.tape
  have ru : w3.output = w.output := by rw [hw3]; exact grow2.output.trans grow1.output
  clear hw3 hB1 hX1 hB2 hX2 grow1 grow2 lab1 lab2 hv1 hv2 own1 own2
  obtain ⟨c0, c1, c2, c3, c4, c5, c6, c7, c8, c9, c10, c11, c12, c13, c14, c15, c16, c17, hf⟩ := ch_cells hB3
  obtain ⟨x0, x1, x2, x3, x4, x5, xf⟩ := blk6 hX3
  have hbl3 : b < w3.heap.size := blk_lt hB3
  have hxl3 : w.heap.size < w3.heap.size := by omega
  have hnb : some b ≠ (Value.slice a.ah a.hs.length a.ch).ownBlock := owns_ne h.blk h.hd (by decide)
  go_region_law (refine step_append_rows rfl (.tmp 25) (.tmp 27) 63 rfl 60 i2 _ 6 80 Tryz.underlying63 hi2 z2 s2 y2 rfl (by decide) (.slice a.ah a.hs.length a.ch) a.hs.length (a.hs.flatMap HdV.cells) (by simp [Act.eval]) (by exact hH3.alloc _) (.slice (some ⟨w3.heap.size, 0, none⟩) 1 1) 1 [.int .u64 S.hd.height, .int .u64 S.hd.time, .bool S.hd.isOpen, .int .u64 S.hd.nextRecv, .slice a1 S.hd.packets.length k1, .slice a2 S.hd.answers.length k2] (by simp [Act.eval]) (by exact src6 _ _ _ _ _ _ _ _) (by exact hd_one _ _ _ _ _ _ _ _ _ _ rfl rfl rfl rfl) (by omega) (by omega) ?_; intro v4 w4 own4 grow4 lab4; obtain ⟨d0, d1, d2, d3, d4, d5, d6, d7, d8, d9, d10, d11, d12, d13, d14, d15, d16, d17, df⟩ := ch_cells (app_after hB3 grow4 hnb); obtain ⟨a4, k4, hv4⟩ := owns_form own4; rw [hv4])
  all_goals
    go_end0
    refine ⟨rfl, ?_⟩
    subst hv4
    exact commit_done h ho (w3 := w3) (a1 := a1) (a2 := a2) (k1 := k1) (k2 := k2) ro rt ru (by omega) hold p1 n1 p2 n2 grow4 own4 lab4
end Go.Proofs.YtmfdhcnnhlchbaaGreat

namespace Go.Proofs.YtmfdhcnnhlchbaaGreat
open Go.RowKit

/-- Nothing of what was there has turned. -/
theorem ref_same {own : Nat → Nat} {o : Nat} {w w1 : World} {b : Nat} {S : Ch} {a : At} (h : RefCh own o w b S a) (g : w.grownBy w1 none) : RefCh own o w1 b S a ∧ Step own own o w w1 :=
  ⟨h.keep (fun k hk _ => g.block k hk (by simp)) (fun _ _ => rfl), ⟨g.os, g.tape, g.output, g.size, fun _ _ => rfl, fun k hk _ => g.block k hk (by simp)⟩⟩

/-- A row stays where only block b (of another type) and the row r (of another type) are written. -/
theorem row_keep {w w' : World} {b t e size n : Nat} {c : Array Value} {f : Nat × Nat} {v : Value} {xs : List Value} {r : Option Nat} (h : w.ownsRow 0 e size v n xs) (hb : w.heap[b]? = some (.cells c t f)) (hne : t ≠ e)
    (hr : ∀ k, v.ownBlock = some k → some k ≠ r) (hk : ∀ k, k < w.heap.size → k ≠ b → some k ≠ r → w'.heap[k]? = w.heap[k]?) : w'.ownsRow 0 e size v n xs :=
  owns_keep h fun k e1 => hk k (owns_lt h e1) (fun e2 => owns_ne hb h hne (by rw [e1, e2])) (hr k e1)

/-- A chain's new state, put together. -/
theorem ref_build {own : Nat → Nat} {o : Nat} {w w' : World} {b : Nat} {S S' : Ch} {a a' : At} (h : RefCh own o w b S a)
    (hos : w'.os = w.os) (htape : w'.tape = w.tape) (hout : w'.output = w.output) (hsz : w.heap.size ≤ w'.heap.size)
    (hkeep : ∀ k, k < w.heap.size → own k ≠ o → w'.heap[k]? = w.heap[k]?)
    (ho : o ≠ 0)
    (hB : w'.heap[b]? = some (.cells (chCells S' a').toArray tCh (0, 0)))
    (pk : ownsPk w' (a'.vp S') S'.hd.packets) (lpk : ∀ k, (a'.vp S').ownBlock = some k → k < w.heap.size → own k = o)
    (an : ownsAns w' (a'.va S') S'.hd.answers) (lan : ∀ k, (a'.va S').ownBlock = some k → k < w.heap.size → own k = o)
    (hd : w'.ownsRow 0 tHdr 6 a'.vh a'.hs.length (a'.hs.flatMap HdV.cells)) (lhd : ∀ k, a'.vh.ownBlock = some k → k < w.heap.size → own k = o)
    (heads : a'.hs.map HdV.hd = S'.heads)
    (each : ∀ x ∈ a'.hs, x ∈ a.hs ∨ (ownsPk w' x.vp x.hd.packets ∧ (∀ k, x.vp.ownBlock = some k → w.heap.size ≤ k ∧ some k ≠ (a'.vp S').ownBlock) ∧ ownsAns w' x.va x.hd.answers ∧ (∀ k, x.va.ownBlock = some k → w.heap.size ≤ k ∧ some k ≠ (a'.va S').ownBlock))) :
    ∃ own', RefCh own' o w' b S' a' ∧ Step own own' o w w' := by
  have hbl := blk_lt h.blk
  have lab : ∀ (v : Value), (v = a'.vp S' ∨ v = a'.va S' ∨ v = a'.vh) → (∀ k, v.ownBlock = some k → k < w.heap.size → own k = o) →
      labelled (fun k => if k < w.heap.size then own k else if some k = (a'.vp S').ownBlock ∨ some k = (a'.va S').ownBlock ∨ some k = a'.vh.ownBlock then o else 0) v o := by
    intro v hv hl k e
    by_cases hk : k < w.heap.size
    · simp only [hk, if_true]; exact hl k e hk
    · simp only [hk, if_false]
      rw [if_pos]
      rcases hv with rfl | rfl | rfl
      · exact .inl e.symm
      · exact .inr (.inl e.symm)
      · exact .inr (.inr e.symm)
  refine ⟨fun k => if k < w.heap.size then own k else if some k = (a'.vp S').ownBlock ∨ some k = (a'.va S').ownBlock ∨ some k = a'.vh.ownBlock then o else 0,
    ⟨hB, ?_, pk, lab _ (.inl rfl) lpk, an, lab _ (.inr (.inl rfl)) lan, hd, lab _ (.inr (.inr rfl)) lhd, heads, ?_⟩, ⟨hos, htape, hout, hsz, ?_, hkeep⟩⟩
  · simp [hbl, h.lb]
  · intro x hx
    rcases each x hx with hx | ⟨e1, e2, e3, e4⟩
    · obtain ⟨e1, e2, e3, e4⟩ := h.each x hx
      exact ⟨owns_keep e1 fun k e => hkeep k (owns_lt e1 e) (by rw [e2 k e]; exact fun e0 => ho e0.symm), fun k e => by simp [owns_lt e1 e, e2 k e],
        owns_keep e3 fun k e => hkeep k (owns_lt e3 e) (by rw [e4 k e]; exact fun e0 => ho e0.symm), fun k e => by simp [owns_lt e3 e, e4 k e]⟩
    · refine ⟨e1, fun k e => ?_, e3, fun k e => ?_⟩
      · have hk := (e2 k e).1
        simp only
        rw [if_neg (by omega), if_neg]
        rintro (e5 | e5 | e5)
        · exact (e2 k e).2 e5
        · exact row_apart e1 an (by decide) k e e5
        · exact row_apart e1 hd (by decide) k e e5
      · have hk := (e4 k e).1
        simp only
        rw [if_neg (by omega), if_neg]
        rintro (e5 | e5 | e5)
        · exact row_apart e3 pk (by decide) k e e5
        · exact (e4 k e).2 e5
        · exact row_apart e3 hd (by decide) k e e5
  · intro k hk
    simp [hk]

/-- What a step of the owner o has left: the chain S'; of all others nothing has turned. -/
def RefTo (own : Nat → Nat) (o : Nat) (w : World) (b : Nat) (S' : Ch) (w' : World) : Prop := ∃ own' a', RefCh own' o w' b S' a' ∧ Step own own' o w w'

theorem has_cell {w : World} {b : Nat} {S : Ch} {a : At} (h : w.heap[b]? = some (.cells (chCells S a).toArray tCh (0, 0))) {k : Nat} (hk : k < 6) : w.cell? ⟨b, 7 + k, none⟩ = some (.int .u64 (S.get k)) := by
  have e : k = 0 ∨ k = 1 ∨ k = 2 ∨ k = 3 ∨ k = 4 ∨ k = 5 := by omega
  rcases e with rfl | rfl | rfl | rfl | rfl | rfl <;> simp [World.cell?, h, chCells, Ch.get]

theorem has_set {w : World} {b : Nat} {S : Ch} {a : At} (h : w.heap[b]? = some (.cells (chCells S a).toArray tCh (0, 0))) {k : Nat} (hk : k < 6) (v : Int) :
    (w.setCell ⟨b, 7 + k, none⟩ (.int .u64 v)).heap[b]? = some (.cells (chCells (S.put k v) a).toArray tCh (0, 0)) := by
  have e : k = 0 ∨ k = 1 ∨ k = 2 ∨ k = 3 ∨ k = 4 ∨ k = 5 := by omega
  rw [setCell_same h]
  rcases e with rfl | rfl | rfl | rfl | rfl | rfl <;> simp [chCells, Ch.put]

end Go.Proofs.YtmfdhcnnhlchbaaGreat

namespace Go.Proofs.YtmfdhcnnhlchbaaGreat
open Go.RowKit

theorem src7 (w : World) (t : TypeId) (x0 x1 x2 x3 x4 x5 x6 : Value) : srcRow (w.alloc (.cells #[x0, x1, x2, x3, x4, x5, x6] t)).drew 7 (.slice (some ⟨w.heap.size, 0, none⟩) 1 1) 1 [x0, x1, x2, x3, x4, x5, x6] := by
  refine ⟨rfl, .inr ⟨_, _, rfl, ?_⟩⟩
  intro j u hj
  rw [Addr.add_lit]
  have : ((w.alloc (.cells #[x0, x1, x2, x3, x4, x5, x6] t)).drew).heap[w.heap.size]? = some (.cells #[x0, x1, x2, x3, x4, x5, x6] t (0, 0)) := heap_alloc_new w _
  rw [cell_of_row _ _ _ _ _ _ this]
  simpa using hj

theorem moved_hd (S : Ch) (p : Pk) : (S.counted p).hd = S.hd ∧ (S.counted p).heads = S.heads := ⟨rfl, rfl⟩

theorem send_done {own : Nat → Nat} {o : Nat} {w : World} {b : Nat} {S : Ch} {a : At} {p : Pk} (h : RefCh own o w b S a) (ho : o ≠ 0)
    {w3 w4 : World} {X : Obj} {a4 : Option Addr} {k4 : Nat} (g3 : w.grownBy w3 (some b)) (hB3 : w3.heap[b]? = some (.cells (chCells (S.counted p) a).toArray tCh (0, 0)))
    (grow4 : (w3.alloc X).drew.grownBy w4 (Value.slice a.ap S.hd.packets.length a.cp).ownBlock)
    (own4 : w4.ownsRow 0 tPk 7 (.slice a4 (S.hd.packets.length + 1) k4) (S.hd.packets.length + 1) (S.hd.packets.flatMap Pk.cells ++ Pk.cells { p with seq := S.nextSend }))
    (lab4 : fresh (w3.alloc X).drew (.slice a.ap S.hd.packets.length a.cp) (.slice a4 (S.hd.packets.length + 1) k4)) :
    RefTo own o w b (S.sent p) (w4.setCell ⟨b, 4, none⟩ (.slice a4 (S.hd.packets.length + 1) k4)) := by
  have hbl := blk_lt h.blk
  have hnb : some b ≠ (Value.slice a.ap S.hd.packets.length a.cp).ownBlock := owns_ne h.blk h.pk (by decide)
  have hB4 := app_after hB3 grow4 hnb
  have hnb4 : some b ≠ (Value.slice a4 (S.hd.packets.length + 1) k4).ownBlock := owns_ne hB4 own4 (by decide)
  have hs3 := g3.size
  have hs4 : w3.heap.size + 1 ≤ w4.heap.size := by have := grow4.size; simp at this; omega
  have hk : ∀ k, k < w.heap.size → k ≠ b → some k ≠ (Value.slice a.ap S.hd.packets.length a.cp).ownBlock → (w4.setCell ⟨b, 4, none⟩ (.slice a4 (S.hd.packets.length + 1) k4)).heap[k]? = w.heap[k]? := by
    intro k hk hkb hkr
    rw [setCell_other _ _ _ hkb, grow4.block k (by simp; omega) hkr]
    exact (heap_alloc_old w3 X (by omega)).trans (g3.block k hk (by simpa using hkb))
  refine (ref_build (w' := w4.setCell ⟨b, 4, none⟩ (.slice a4 (S.hd.packets.length + 1) k4)) (S' := S.sent p) (a' := { a with ap := a4, cp := k4 }) h (grow4.os.trans g3.os) (grow4.tape.trans g3.tape) (grow4.output.trans g3.output) (by rw [setCell_size]; omega) (fun k hk1 hne => hk k hk1 (fun e => hne (by rw [e, h.lb])) (fun e => hne (h.lpk k e.symm))) ho ?_ ?_ ?_ ?_ ?_ ?_ ?_ h.heads (fun x hx => .inl hx)).elim fun own' h' => ⟨own', _, h'⟩
  · rw [setCell_same hB4]
    simp [chCells, Ch.sent, moved_hd]
  · refine owns_keep (w := w4) ?_ fun k e => ?_
    · simpa [ownsPk, Ch.sent, At.vp] using own4
    · rw [setCell_other]
      rintro rfl
      exact hnb4 (by simpa [Ch.sent, At.vp] using e.symm)
  · intro k e hk1
    rcases lab4 k (by simpa [Ch.sent, At.vp] using e) with e1 | e1
    · exact h.lpk k e1
    · simp at e1; omega
  · exact row_keep h.an h.blk (by decide) (row_apart h.an h.pk (by decide)) hk
  · exact fun k e _ => h.lan k e
  · exact row_keep h.hd h.blk (by decide) (row_apart h.hd h.pk (by decide)) hk
  · exact fun k e _ => h.lhd k e

/-- The stores between: the sum that goes up or down, the number, the counter. -/
theorem send_mid {w w1 : World} {b : Nat} {S : Ch} {a : At} {p : Pk} (n off : Nat) (v : Int) (g1 : w.grownBy w1 (some b)) (hbl : b < w.heap.size)
    (hB1 : w1.heap[b]? = some (.cells (chCells (S.spent p) a).toArray tCh (0, 0))) (hX1 : w1.heap[w.heap.size]? = some (.cells p.arr tPk (0, 0)))
    (ho : p.coin = S.n ∧ off = 13 ∧ v = IntKind.u64.wrap (S.locked + p.amount) ∨ p.coin ≠ S.n ∧ off = 14 ∧ v = IntKind.u64.wrap (S.about - p.amount))
    {w3 : World} (hw3 : w3 = (((w1.drewN n).setCell ⟨b, off, none⟩ (.int .u64 v)).setCell ⟨w.heap.size, 0, none⟩ (.int .u64 S.nextSend)).setCell ⟨b, 15, none⟩ (.int .u64 (IntKind.u64.wrap (S.nextSend + 1)))) :
    w.grownBy w3 (some b) ∧ w3.heap[b]? = some (.cells (chCells (S.counted p) a).toArray tCh (0, 0)) ∧ w3.heap[w.heap.size]? = some (.cells (Pk.arr { p with seq := S.nextSend }) tPk (0, 0)) := by
  have hX : w.heap.size ≠ b := by omega
  refine ⟨?_, ?_, ?_⟩
  · rw [hw3]; exact grown_set (grown_set (grown_set (grown_drewN g1 _) _ _ (.inl rfl)) _ _ (.inr (Nat.le_refl _))) _ _ (.inl rfl)
  · have e1 : (w1.drewN n).heap[b]? = some (.cells (chCells (S.spent p) a).toArray tCh (0, 0)) := by rw [drewN_heap]; exact hB1
    have e2 := setCell_same e1 off (.int .u64 v)
    rw [← setCell_other _ ⟨w.heap.size, 0, none⟩ (.int .u64 S.nextSend) (show b ≠ w.heap.size by omega)] at e2
    have e3 := setCell_same e2 15 (.int .u64 (IntKind.u64.wrap (S.nextSend + 1)))
    rw [hw3, e3]
    rcases ho with ⟨h1, rfl, rfl⟩ | ⟨h1, rfl, rfl⟩ <;> simp [chCells, Ch.counted, Ch.moved, h1] <;> rfl
  · have e1 : ((w1.drewN n).setCell ⟨b, off, none⟩ (.int .u64 v)).heap[w.heap.size]? = some (.cells p.arr tPk (0, 0)) := by rw [setCell_other _ _ _ hX, drewN_heap]; exact hX1
    rw [hw3, setCell_other _ _ _ hX, setCell_same e1]
    simp

end Go.Proofs.YtmfdhcnnhlchbaaGreat
