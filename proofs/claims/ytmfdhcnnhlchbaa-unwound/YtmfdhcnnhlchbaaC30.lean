import Derived.Test.YtmfdhcnnhlchbaaC29
import Derived.Test.YtmfdhcnnhlchbaaC20
import Derived.Deep.RegionHeld3
namespace Go.Proofs.Ytmfdhcnnhlchbaa
open Go.RowKit Go.Maps Go.Sort Go.Shelf

def LookPost2 (S : Ch) (K : Hd) (w : World) (e : Ending) (w' : World) : Prop :=
  ∃ al cl, e = .returned (.tuple #[.agg #[.int .u64 S.hd.height, .int .u64 S.hd.time, .int .u64 K.height, .bool S.hd.isOpen, .int .u64 S.nextSend, .int .u64 S.hd.nextRecv, .slice al S.hd.packets.length cl, .int .u64 S.locked, .int .u64 S.about], .int .i64 0]) ∧
    w'.ownsRow 0 tU64 1 (.slice al S.hd.packets.length cl) S.hd.packets.length (S.hd.packets.map fun p => .int .u64 p.seq) ∧ (al = none → cl = 0) ∧ (∀ k, (Value.slice al S.hd.packets.length cl).ownBlock = some k → w.heap.size ≤ k) ∧ w.grownBy w' none

theorem LookPost2.mk {S : Ch} {K : Hd} {w : World} {e : Ending} {w' : World} {al : Option Addr} {cl : Nat} (h1 : e = .returned (.tuple #[.agg #[.int .u64 S.hd.height, .int .u64 S.hd.time, .int .u64 K.height, .bool S.hd.isOpen, .int .u64 S.nextSend, .int .u64 S.hd.nextRecv, .slice al S.hd.packets.length cl, .int .u64 S.locked, .int .u64 S.about], .int .i64 0]))
    (h2 : w'.ownsRow 0 tU64 1 (.slice al S.hd.packets.length cl) S.hd.packets.length (S.hd.packets.map fun p => .int .u64 p.seq)) (h3 : al = none → cl = 0) (h4 : ∀ k, (Value.slice al S.hd.packets.length cl).ownBlock = some k → w.heap.size ≤ k) (h5 : w.grownBy w' none) : LookPost2 S K w e w' := ⟨al, cl, h1, h2, h3, h4, h5⟩

section
variable {lab : Nat → Nat} {w : World} {x : Nat} {B : Nat}

set_option maxRecDepth 100000 in
set_option maxHeartbeats 1600000 in
theorem look0_any {m : Mod} {a0 a1 : DAt} {K0 K1 : Hd} (h : Br lab w x m a0 a1 K0 K1 B) (hB : B < 16777216) :
    Calls Try.prog 13 #[.pointer (some ⟨x, 0, none⟩), .int .i64 0] w fun e w' => LookPost2 m.c0 K0 w e w' := by
  obtain ⟨w1, hw1⟩ : ∃ w1 : World, w1 = w.alloc (.cells #[.int .u64 0, .int .u64 0, .int .u64 0, .bool false, .int .u64 0, .int .u64 0, .slice none 0 0, .int .u64 0, .int .u64 0] 49) := ⟨_, rfl⟩
  have g1 : w.grownBy w1 none := by rw [hw1]; exact World.grownBy_alloc _ _ _
  have hX1 : w1.heap[w.heap.size]? = some (.cells #[.int .u64 0, .int .u64 0, .int .u64 0, .bool false, .int .u64 0, .int .u64 0, .slice none 0 0, .int .u64 0, .int .u64 0] 49 (0, 0)) := by rw [hw1]; exact heap_alloc_new w _
  have h1 := h.grown g1
  have zl : w.heap.size < w1.heap.size := blk_lt hX1
  have hlk := look_any (q := 0) h1.c0 rfl hB
  go_enter Try.func13, Try.ntmps13
  go_wp2_with fail
  rw [← hw1]
  clear hw1
  refine (find0 h1).mono ?_
  rintro e w2 ⟨rfl, rfl⟩
  go_wp2_with fail
  refine hlk.mono ?_
  rintro e w3 ⟨al, cl, rfl, hrow, hnil, hbig, g3⟩
  have hX3 := (g3.block _ zl (by simp)).trans hX1
  have zl3 := blk_lt hX3
  obtain ⟨y0, y1, y2, y3, y4, y5, y6, y7, y8, yf⟩ := blk9c hX3
  go_wp2_with fail
  refine bodyPost_ret (v := .tuple #[.agg #[.int .u64 m.c0.hd.height, .int .u64 m.c0.hd.time, .int .u64 K0.height, .bool m.c0.hd.isOpen, .int .u64 m.c0.nextSend, .int .u64 m.c0.hd.nextRecv, .slice al m.c0.hd.packets.length cl, .int .u64 m.c0.locked, .int .u64 m.c0.about], .int .i64 0]) ?_ rfl (LookPost2.mk rfl ?_ hnil ?_ ?_)
  · simp [results, Try.results13, go_sem, *]
  · refine owns_keep hrow (fun k hk => ?_)
    have hk1 := hbig k hk
    have hk2 : k ≠ w.heap.size := by omega
    rw [setCell_other _ _ _ hk2, setCell_other _ _ _ hk2, setCell_other _ _ _ hk2, setCell_other _ _ _ hk2, setCell_other _ _ _ hk2, setCell_other _ _ _ hk2, setCell_other _ _ _ hk2, setCell_other _ _ _ hk2, setCell_other _ _ _ hk2]
  · intro k hk
    have hk1 := hbig k hk
    omega
  · have g4' : w.grownBy w3 none := grown_trans g1 g3 (fun k e => by cases e)
    exact grown_set (grown_set (grown_set (grown_set (grown_set (grown_set (grown_set (grown_set (grown_set g4' _ _ (.inr (Nat.le_refl _))) _ _ (.inr (Nat.le_refl _))) _ _ (.inr (Nat.le_refl _))) _ _ (.inr (Nat.le_refl _))) _ _ (.inr (Nat.le_refl _))) _ _ (.inr (Nat.le_refl _))) _ _ (.inr (Nat.le_refl _))) _ _ (.inr (Nat.le_refl _))) _ _ (.inr (Nat.le_refl _))

set_option maxRecDepth 100000 in
set_option maxHeartbeats 1600000 in
theorem look1_any {m : Mod} {a0 a1 : DAt} {K0 K1 : Hd} (h : Br lab w x m a0 a1 K0 K1 B) (hB : B < 16777216) :
    Calls Try.prog 13 #[.pointer (some ⟨x, 0, none⟩), .int .i64 1] w fun e w' => LookPost2 m.c1 K1 w e w' := by
  obtain ⟨w1, hw1⟩ : ∃ w1 : World, w1 = w.alloc (.cells #[.int .u64 0, .int .u64 0, .int .u64 0, .bool false, .int .u64 0, .int .u64 0, .slice none 0 0, .int .u64 0, .int .u64 0] 49) := ⟨_, rfl⟩
  have g1 : w.grownBy w1 none := by rw [hw1]; exact World.grownBy_alloc _ _ _
  have hX1 : w1.heap[w.heap.size]? = some (.cells #[.int .u64 0, .int .u64 0, .int .u64 0, .bool false, .int .u64 0, .int .u64 0, .slice none 0 0, .int .u64 0, .int .u64 0] 49 (0, 0)) := by rw [hw1]; exact heap_alloc_new w _
  have h1 := h.grown g1
  have zl : w.heap.size < w1.heap.size := blk_lt hX1
  have hlk := look_any (q := 22) h1.c1 rfl hB
  go_enter Try.func13, Try.ntmps13
  go_wp2_with fail
  rw [← hw1]
  clear hw1
  refine (find1 h1).mono ?_
  rintro e w2 ⟨rfl, rfl⟩
  go_wp2_with fail
  refine hlk.mono ?_
  rintro e w3 ⟨al, cl, rfl, hrow, hnil, hbig, g3⟩
  have hX3 := (g3.block _ zl (by simp)).trans hX1
  have zl3 := blk_lt hX3
  obtain ⟨y0, y1, y2, y3, y4, y5, y6, y7, y8, yf⟩ := blk9c hX3
  go_wp2_with fail
  refine bodyPost_ret (v := .tuple #[.agg #[.int .u64 m.c1.hd.height, .int .u64 m.c1.hd.time, .int .u64 K1.height, .bool m.c1.hd.isOpen, .int .u64 m.c1.nextSend, .int .u64 m.c1.hd.nextRecv, .slice al m.c1.hd.packets.length cl, .int .u64 m.c1.locked, .int .u64 m.c1.about], .int .i64 0]) ?_ rfl (LookPost2.mk rfl ?_ hnil ?_ ?_)
  · simp [results, Try.results13, go_sem, *]
  · refine owns_keep hrow (fun k hk => ?_)
    have hk1 := hbig k hk
    have hk2 : k ≠ w.heap.size := by omega
    rw [setCell_other _ _ _ hk2, setCell_other _ _ _ hk2, setCell_other _ _ _ hk2, setCell_other _ _ _ hk2, setCell_other _ _ _ hk2, setCell_other _ _ _ hk2, setCell_other _ _ _ hk2, setCell_other _ _ _ hk2, setCell_other _ _ _ hk2]
  · intro k hk
    have hk1 := hbig k hk
    omega
  · have g4' : w.grownBy w3 none := grown_trans g1 g3 (fun k e => by cases e)
    exact grown_set (grown_set (grown_set (grown_set (grown_set (grown_set (grown_set (grown_set (grown_set g4' _ _ (.inr (Nat.le_refl _))) _ _ (.inr (Nat.le_refl _))) _ _ (.inr (Nat.le_refl _))) _ _ (.inr (Nat.le_refl _))) _ _ (.inr (Nat.le_refl _))) _ _ (.inr (Nat.le_refl _))) _ _ (.inr (Nat.le_refl _))) _ _ (.inr (Nat.le_refl _))) _ _ (.inr (Nat.le_refl _))

end

end Go.Proofs.Ytmfdhcnnhlchbaa

namespace Go.Proofs.Ytmfdhcnnhlchbaa
open Go.RowKit Go.Maps

abbrev tInt : TypeId := 3
abbrev tBool : TypeId := 4

/-- Where a ledger's three lists lie. -/
structure LgAt where
  s : Option Addr
  cs : Nat
  a : Option Addr
  ca : Nat
  p : Option Addr
  cp : Nat

abbrev Lg.vs (L : Lg) (r : LgAt) : Value := .slice r.s L.sent.length r.cs
abbrev Lg.va (L : Lg) (r : LgAt) : Value := .slice r.a L.ans.length r.ca
abbrev Lg.vp (L : Lg) (r : LgAt) : Value := .slice r.p L.pend.length r.cp

/-- A ledger's lists in memory. -/
structure LgRows (lab : Nat → Nat) (w : World) (L : Lg) (r : LgAt) (ls la lp : Nat) : Prop where
  s : w.ownsRow 0 tPk 7 (L.vs r) L.sent.length (L.sent.flatMap Pk.cells)
  a : w.ownsRow 0 tInt 1 (L.va r) L.ans.length (L.ans.map (Value.int .i64))
  p : w.ownsRow 0 tBool 1 (L.vp r) L.pend.length (L.pend.map Value.bool)
  ls_ : labelled lab (L.vs r) ls
  la_ : labelled lab (L.va r) la
  lp_ : labelled lab (L.vp r) lp

abbrev wdCells (x : Nat) (L0 L1 : Lg) (r0 r1 : LgAt) : Array Value := #[.pointer (some ⟨x, 0, none⟩), L0.vs r0, L1.vs r1, L0.va r0, L1.va r1, L0.vp r0, L1.vp r1]

/-- The law's world: a bridge, and a ledger for each chain. -/
structure Wd (lab : Nat → Nat) (w : World) (y x : Nat) (m : Mod) (L0 L1 : Lg) (r0 r1 : LgAt) (N : Nat) : Prop where
  blk : w.heap[y]? = some (.cells (wdCells x L0 L1 r0 r1) tWd (0, 0))
  ly : lab y = 4
  l0 : LgRows lab w L0 r0 5 7 9
  l1 : LgRows lab w L1 r1 6 8 10
  br : ∃ a0 a1 K0 K1, Br lab w x m a0 a1 K0 K1 (6 + 4 * N)
  two : Two m.c0 m.c1 L0 L1 N
  tk : 0 ≤ m.taken ∧ m.taken ≤ N

theorem LgRows.keep {lab lab' : Nat → Nat} {w w' : World} {L : Lg} {r : LgAt} {ls la lp : Nat} (h : LgRows lab w L r ls la lp) (hb : ∀ k, k < w.heap.size → lab k = ls ∨ lab k = la ∨ lab k = lp → w'.heap[k]? = w.heap[k]?) (hl : ∀ k, k < w.heap.size → lab' k = lab k) : LgRows lab' w' L r ls la lp :=
  ⟨owns_keep h.s fun k e => hb k (owns_lt h.s e) (.inl (h.ls_ k e)), owns_keep h.a fun k e => hb k (owns_lt h.a e) (.inr (.inl (h.la_ k e))), owns_keep h.p fun k e => hb k (owns_lt h.p e) (.inr (.inr (h.lp_ k e))),
   fun k e => (hl k (owns_lt h.s e)).trans (h.ls_ k e), fun k e => (hl k (owns_lt h.a e)).trans (h.la_ k e), fun k e => (hl k (owns_lt h.p e)).trans (h.lp_ k e)⟩

theorem Wd.grown {lab : Nat → Nat} {w w' : World} {y x : Nat} {m : Mod} {L0 L1 : Lg} {r0 r1 : LgAt} {N : Nat} (h : Wd lab w y x m L0 L1 r0 r1 N) (g : w.grownBy w' none) : Wd lab w' y x m L0 L1 r0 r1 N := by
  obtain ⟨a0, a1, K0, K1, hb⟩ := h.br
  exact ⟨(g.block y (blk_lt h.blk) (by simp)).trans h.blk, h.ly, h.l0.keep (fun k hk _ => g.block k hk (by simp)) (fun _ _ => rfl), h.l1.keep (fun k hk _ => g.block k hk (by simp)) (fun _ _ => rfl), ⟨a0, a1, K0, K1, hb.grown g⟩, h.two, h.tk⟩

/-- A step of the bridge: the lists stay. -/
theorem Wd.stepped {lab : Nat → Nat} {w w' : World} {y x : Nat} {m m' : Mod} {L0 L1 : Lg} {r0 r1 : LgAt} {N : Nat} (h : Wd lab w y x m L0 L1 r0 r1 N) (t : BrTo lab w x m' (6 + 4 * N + 4) w') (h2 : Two m'.c0 m'.c1 L0 L1 (N + 1)) (ht : 0 ≤ m'.taken ∧ m'.taken ≤ N + 1) : ∃ lab', Wd lab' w' y x m' L0 L1 r0 r1 (N + 1) ∧ StepB x lab lab' w w' := by
  obtain ⟨lab', a0, a1, K0, K1, hb, st⟩ := t
  refine ⟨lab', ⟨(st.far y (blk_lt h.blk) (by rw [h.ly]; decide)).trans h.blk, (st.label y (blk_lt h.blk)).trans h.ly, h.l0.keep (fun k hk e => st.far k hk (by omega)) st.label, h.l1.keep (fun k hk e => st.far k hk (by omega)) st.label, ⟨a0, a1, K0, K1, ?_⟩, h2, by simpa using ht⟩, st⟩
  rw [show 6 + 4 * (N + 1) = 6 + 4 * N + 4 from by omega]
  exact hb

theorem blk7c {w : World} {b t : Nat} {x0 x1 x2 x3 x4 x5 x6 : Value} (h : w.heap[b]? = some (.cells #[x0, x1, x2, x3, x4, x5, x6] t (0, 0))) :
    w.cell? ⟨b, 0, none⟩ = some x0 ∧ w.cell? ⟨b, 1, none⟩ = some x1 ∧ w.cell? ⟨b, 2, none⟩ = some x2 ∧ w.cell? ⟨b, 3, none⟩ = some x3 ∧ w.cell? ⟨b, 4, none⟩ = some x4 ∧ w.cell? ⟨b, 5, none⟩ = some x5 ∧ w.cell? ⟨b, 6, none⟩ = some x6 ∧ (∀ k, w.frozen? ⟨b, k, none⟩ = false) := by
  refine ⟨?_, ?_, ?_, ?_, ?_, ?_, ?_, ?_⟩
  all_goals first
    | (intro k; simp [World.frozen?, h])
    | simp [World.cell?, h]

abbrev lg0 : Lg := { sent := [], ans := [], pend := [] }
abbrev at0 : LgAt := { s := none, cs := 0, a := none, ca := 0, p := none, cp := 0 }

theorem rows0 (lab : Nat → Nat) (w : World) (ls la lp : Nat) : LgRows lab w lg0 at0 ls la lp :=
  ⟨World.ownsRow_nil _ _ _ _, World.ownsRow_nil _ _ _ _, World.ownsRow_nil _ _ _ _, fun k e => by simp [Value.ownBlock] at e, fun k e => by simp [Value.ownBlock] at e, fun k e => by simp [Value.ownBlock] at e⟩

/-- begin gives a world. -/
theorem begin_wd {w : World} : Calls Try.prog 7 #[] w fun e w' => ∃ x y lab, e = .returned (.tuple #[.pointer (some ⟨y, 0, none⟩), .bool true]) ∧ Wd lab w' y x (newMod 1000) lg0 lg0 at0 at0 0 ∧ (∀ k, k < w.heap.size → lab k = 0) ∧ w.grownBy w' none := by
  refine begin_ok.mono ?_
  rintro e w' ⟨x, y, lab, a0, a1, rfl, hb, hl, hy, hly, g, hblk⟩
  exact ⟨x, y, lab, rfl, ⟨hblk, hly, rows0 _ _ _ _ _, rows0 _ _ _ _ _, ⟨a0, a1, _, _, hb⟩, two_new 1000, by decide⟩, hl, g⟩

end Go.Proofs.Ytmfdhcnnhlchbaa

namespace Go.Proofs.Ytmfdhcnnhlchbaa
open Go.RowKit Go.Maps

/-- What the law's own steps leave alone: blocks that bear no label. -/
structure StepW (lab lab' : Nat → Nat) (w w' : World) : Prop where
  os : w'.os = w.os
  tape : w'.tape = w.tape
  output : w'.output = w.output
  size : w.heap.size ≤ w'.heap.size
  label : ∀ k, k < w.heap.size → lab' k = lab k
  block : ∀ k, k < w.heap.size → lab k = 0 → w'.heap[k]? = w.heap[k]?

theorem StepW.refl (lab : Nat → Nat) (w : World) : StepW lab lab w w := ⟨rfl, rfl, rfl, Nat.le_refl _, fun _ _ => rfl, fun _ _ _ => rfl⟩

theorem StepW.trans {lab lab1 lab2 : Nat → Nat} {w w1 w2 : World} (h : StepW lab lab1 w w1) (g : StepW lab1 lab2 w1 w2) : StepW lab lab2 w w2 :=
  ⟨g.os.trans h.os, g.tape.trans h.tape, g.output.trans h.output, Nat.le_trans h.size g.size, fun k hk => (g.label k (Nat.lt_of_lt_of_le hk h.size)).trans (h.label k hk),
   fun k hk e => (g.block k (Nat.lt_of_lt_of_le hk h.size) (by rw [h.label k hk]; exact e)).trans (h.block k hk e)⟩

theorem StepW.ofB {x : Nat} {lab lab' : Nat → Nat} {w w' : World} (h : StepB x lab lab' w w') : StepW lab lab' w w' := ⟨h.os, h.tape, h.output, h.size, h.label, h.block⟩

theorem StepW.ofG {lab lab' : Nat → Nat} {w w' : World} (g : w.grownBy w' none) (hl : ∀ k, k < w.heap.size → lab' k = lab k) : StepW lab lab' w w' := ⟨g.os, g.tape, g.output, g.size, hl, fun k hk _ => g.block k hk (by simp)⟩

theorem StepW.below {lab lab' : Nat → Nat} {w w' : World} {B : Nat} (h : StepW lab lab' w w') (hB : B ≤ w.heap.size) (hl : ∀ k, k < B → lab k = 0) : Below B w w' := ⟨h.os, h.tape, h.output, h.size, fun k hk => h.block k (by omega) (hl k hk)⟩

/-- A ledger's lists are of one length. -/
structure Lens (L : Lg) : Prop where
  a : L.ans.length = L.sent.length
  p : L.pend.length = L.sent.length
  s : L.sent.length ≤ 100000

/-- The law's world in memory. -/
structure Wm (lab : Nat → Nat) (w : World) (y x : Nat) (m : Mod) (L0 L1 : Lg) (r0 r1 : LgAt) (B : Nat) : Prop where
  blk : w.heap[y]? = some (.cells (wdCells x L0 L1 r0 r1) tWd (0, 0))
  ly : lab y = 4
  l0 : LgRows lab w L0 r0 5 7 9
  l1 : LgRows lab w L1 r1 6 8 10
  br : ∃ a0 a1 K0 K1, Br lab w x m a0 a1 K0 K1 B

theorem Br.keep {lab lab' : Nat → Nat} {w w' : World} {x : Nat} {m : Mod} {a0 a1 : DAt} {K0 K1 : Hd} {B : Nat} (h : Br lab w x m a0 a1 K0 K1 B) (hb : ∀ k, k < w.heap.size → lab k < 4 → w'.heap[k]? = w.heap[k]?) (hl : ∀ k, k < w.heap.size → lab' k = lab k) : Br lab' w' x m a0 a1 K0 K1 B := by
  have hx := blk_lt h.c0.blk
  have hlx := h.lx
  exact ⟨h.c0.keep ((hb x hx (by omega)).trans h.c0.blk) (fun k hk e => hb k hk (by omega)) hl, h.c1.keep ((hb x hx (by omega)).trans h.c1.blk) (fun k hk e => hb k hk (by omega)) hl, h.k0, h.k1, h.h0, h.h1, (hl x hx).trans h.lx⟩

section
variable {lab : Nat → Nat} {w : World} {y x : Nat} {m : Mod} {L0 L1 : Lg} {r0 r1 : LgAt} {B : Nat}

theorem Wm.grown {w' : World} (h : Wm lab w y x m L0 L1 r0 r1 B) (g : w.grownBy w' none) : Wm lab w' y x m L0 L1 r0 r1 B := by
  obtain ⟨a0, a1, K0, K1, hb⟩ := h.br
  exact ⟨(g.block y (blk_lt h.blk) (by simp)).trans h.blk, h.ly, h.l0.keep (fun k hk _ => g.block k hk (by simp)) (fun _ _ => rfl), h.l1.keep (fun k hk _ => g.block k hk (by simp)) (fun _ _ => rfl), ⟨a0, a1, K0, K1, hb.grown g⟩⟩

theorem Wm.fresh {w' : World} (h : Wm lab w y x m L0 L1 r0 r1 B) (g : w.grownBy w' none) : Wm (labN lab w.heap.size) w' y x m L0 L1 r0 r1 B := by
  obtain ⟨a0, a1, K0, K1, hb⟩ := h.br
  exact ⟨(g.block y (blk_lt h.blk) (by simp)).trans h.blk, (labN_old (blk_lt h.blk)).trans h.ly, h.l0.keep (fun k hk _ => g.block k hk (by simp)) (fun _ hk => labN_old hk), h.l1.keep (fun k hk _ => g.block k hk (by simp)) (fun _ hk => labN_old hk), ⟨a0, a1, K0, K1, hb.fresh g⟩⟩

/-- A step of the bridge: the lists stay. -/
theorem Wm.stepped {w' : World} {m' : Mod} {B' : Nat} (h : Wm lab w y x m L0 L1 r0 r1 B) (t : BrTo lab w x m' B' w') : ∃ lab', Wm lab' w' y x m' L0 L1 r0 r1 B' ∧ StepB x lab lab' w w' := by
  obtain ⟨lab', a0, a1, K0, K1, hb, st⟩ := t
  exact ⟨lab', ⟨(st.far y (blk_lt h.blk) (by rw [h.ly]; decide)).trans h.blk, (st.label y (blk_lt h.blk)).trans h.ly, h.l0.keep (fun k hk e => st.far k hk (by omega)) st.label, h.l1.keep (fun k hk e => st.far k hk (by omega)) st.label, ⟨a0, a1, K0, K1, hb⟩⟩, st⟩

theorem Wd.mem {N : Nat} (h : Wd lab w y x m L0 L1 r0 r1 N) : Wm lab w y x m L0 L1 r0 r1 (6 + 4 * N) := ⟨h.blk, h.ly, h.l0, h.l1, h.br⟩

theorem Wm.wd {N : Nat} (h : Wm lab w y x m L0 L1 r0 r1 (6 + 4 * N)) (h2 : Two m.c0 m.c1 L0 L1 N) (ht : 0 ≤ m.taken ∧ m.taken ≤ N) : Wd lab w y x m L0 L1 r0 r1 N := ⟨h.blk, h.ly, h.l0, h.l1, h.br, h2, ht⟩

theorem Two.lens0 {S O : Ch} {Ls Lo : Lg} {N : Nat} (h : Two S O Ls Lo N) (hN : N ≤ 100000) : Lens Ls := ⟨h.out.la, h.out.lp, by have := h.rs.s; omega⟩

theorem Two.lens1 {S O : Ch} {Ls Lo : Lg} {N : Nat} (h : Two S O Ls Lo N) (hN : N ≤ 100000) : Lens Lo := ⟨h.back.la, h.back.lp, by have := h.ro.s; omega⟩

end

end Go.Proofs.Ytmfdhcnnhlchbaa

namespace Go.Proofs.Ytmfdhcnnhlchbaa
open Go.RowKit Go.Maps

abbrev lgOf (L0 L1 : Lg) (c : Nat) : Lg := if c = 0 then L0 else L1
abbrev atOf (r0 r1 : LgAt) (c : Nat) : LgAt := if c = 0 then r0 else r1

def owes (L : Lg) (coin : Int) (i : Nat) : Option Int :=
  match L.sent[i]?, L.pend[i]?, L.ans[i]? with
  | some p, some true, some v => if p.coin = coin ∧ v ≠ 1 then some p.amount else none
  | _, _, _ => none

/-- What is under way, of the first so many packets, added to acc. -/
def under (L : Lg) (coin acc : Int) : Nat → Int
  | 0 => acc
  | i + 1 => match owes L coin i with
    | some a => IntKind.u64.wrap (under L coin acc i + a)
    | none => under L coin acc i

def accU (m : Mod) (c coin acc : Int) : Nat → Int
  | 0 => acc
  | u + 1 => IntKind.u64.wrap (accU m c coin acc u + balM m c u coin)

def accC (m : Mod) (L0 L1 : Lg) (coin : Int) : Nat → Int
  | 0 => 0
  | c + 1 => under (lgOf L0 L1 c) coin (accU m c coin (accC m L0 L1 coin c) 3) (lgOf L0 L1 c).sent.length

def totM (m : Mod) (L0 L1 : Lg) (coin : Int) : Int := accC m L0 L1 coin 2

/-- What total has in hand: the sums so far. -/
structure Sum (w : World) (f : Nat → Int) (wr : World) : Prop where
  by_ : w.grownBy wr none
  res : wr.heap[w.heap.size]? = some (.cells #[.int .u64 0, .int .u64 0] 56 (0, 0))
  out : wr.heap[w.heap.size + 1]? = some (.cells #[.int .u64 (f 0), .int .u64 (f 1)] 56 (0, 0))

def upd (f : Nat → Int) (j : Nat) (v : Int) : Nat → Int := fun i => if i = j then v else f i

theorem upd_upd (f : Nat → Int) (j : Nat) (v u : Int) : upd (upd f j v) j u = upd f j u := by
  funext i; unfold upd; split <;> rfl

theorem upd_at (f : Nat → Int) (j : Nat) (v : Int) : upd f j v j = v := by simp [upd]

theorem Sum.add {w wr : World} {f : Nat → Int} {j : Nat} (h : Sum w f wr) (hj : j < 2) (v : Int) : Sum w (upd f j v) (wr.setCell ⟨w.heap.size + 1, j, none⟩ (.int .u64 v)) := by
  refine ⟨grown_set h.by_ _ _ (.inr (by simp)), (setCell_other _ _ _ (by simp)).trans h.res, ?_⟩
  have := setCell_same h.out j (.int .u64 v)
  rcases (show j = 0 ∨ j = 1 by omega) with rfl | rfl <;> simpa [upd] using this

theorem Sum.cell {w wr : World} {f : Nat → Int} {j : Nat} (h : Sum w f wr) (hj : j < 2) : wr.cell? ⟨w.heap.size + 1, j, none⟩ = some (.int .u64 (f j)) := by
  rcases (show j = 0 ∨ j = 1 by omega) with rfl | rfl <;> simp [World.cell?, h.out]

theorem Sum.frozen {w wr : World} {f : Nat → Int} (h : Sum w f wr) (k : Nat) : wr.frozen? ⟨w.heap.size + 1, k, none⟩ = false := by simp [World.frozen?, h.out]

theorem Sum.grow {w wr wr' : World} {f : Nat → Int} (h : Sum w f wr) (g : wr.grownBy wr' none) : Sum w f wr' :=
  ⟨grown_trans h.by_ g (fun k e => by cases e), (g.block _ (blk_lt h.res) (by simp)).trans h.res, (g.block _ (blk_lt h.out) (by simp)).trans h.out⟩

theorem Sum.drew {w wr : World} {f : Nat → Int} (h : Sum w f wr) : Sum w f wr.drew := ⟨grown_drew h.by_, h.res, h.out⟩

section
variable {lab : Nat → Nat} {w : World} {y x : Nat} {m : Mod} {L0 L1 : Lg} {r0 r1 : LgAt} {B : Nat}

theorem bal_at (h : Wm lab w y x m L0 L1 r0 r1 B) {c j u : Nat} (hc : c < 2) (hj : j < 2) (hu : u < 3) {v : World} (g : w.grownBy v none) :
    Calls Try.prog 15 #[.pointer (some ⟨x, 0, none⟩), .int .i64 c, .int .i64 u, .int .i64 j] v fun e w' => e = .returned (.int .u64 (balM m c u j)) ∧ w' = v := by
  obtain ⟨a0, a1, K0, K1, hb⟩ := h.br
  rcases (show c = 0 ∨ c = 1 by omega) with rfl | rfl
  · exact balance0 (hb.grown g) ⟨by omega, by omega⟩ ⟨by omega, by omega⟩
  · exact balance1 (hb.grown g) ⟨by omega, by omega⟩ ⟨by omega, by omega⟩

theorem Wm.cells (h : Wm lab w y x m L0 L1 r0 r1 B) {c : Nat} (hc : c < 2) :
    w.cell? ⟨y, 0, none⟩ = some (.pointer (some ⟨x, 0, none⟩)) ∧ w.cell? ⟨y, 1 + c, none⟩ = some ((lgOf L0 L1 c).vs (atOf r0 r1 c)) ∧ w.cell? ⟨y, 3 + c, none⟩ = some ((lgOf L0 L1 c).va (atOf r0 r1 c)) ∧
      w.cell? ⟨y, 5 + c, none⟩ = some ((lgOf L0 L1 c).vp (atOf r0 r1 c)) ∧ ∀ k, w.frozen? ⟨y, k, none⟩ = false := by
  obtain ⟨y0, y1, y2, y3, y4, y5, y6, yf⟩ := blk7c h.blk
  rcases (show c = 0 ∨ c = 1 by omega) with rfl | rfl
  · exact ⟨y0, y1, y3, y5, yf⟩
  · exact ⟨y0, y2, y4, y6, yf⟩

end

end Go.Proofs.Ytmfdhcnnhlchbaa

namespace Go.Proofs.Ytmfdhcnnhlchbaa
open Go.RowKit Go.Maps

/-- Chain c's part is b in the place of what it was. -/
abbrev put0 {α : Type} (c : Nat) (a b : α) : α := if c = 0 then b else a
abbrev put1 {α : Type} (c : Nat) (a b : α) : α := if c = 0 then a else b

section
variable {lab lab' : Nat → Nat} {w w' : World} {y x : Nat} {m : Mod} {L0 L1 : Lg} {r0 r1 : LgAt} {B c : Nat}

theorem Wm.lg (h : Wm lab w y x m L0 L1 r0 r1 B) (hc : c < 2) : LgRows lab w (lgOf L0 L1 c) (atOf r0 r1 c) (5 + c) (7 + c) (9 + c) := by
  rcases (show c = 0 ∨ c = 1 by omega) with rfl | rfl
  · exact h.l0
  · exact h.l1

/-- Chain c's lists have turned. -/
theorem Wm.turn (h : Wm lab w y x m L0 L1 r0 r1 B) (hc : c < 2) {L : Lg} {r : LgAt} (blk : w'.heap[y]? = some (.cells (wdCells x (put0 c L0 L) (put1 c L1 L) (put0 c r0 r) (put1 c r1 r)) tWd (0, 0))) (rows : LgRows lab' w' L r (5 + c) (7 + c) (9 + c))
    (hb : ∀ k, k < w.heap.size → lab k ≠ 4 → lab k ≠ 5 + c → lab k ≠ 7 + c → lab k ≠ 9 + c → w'.heap[k]? = w.heap[k]?) (hl : ∀ k, k < w.heap.size → lab' k = lab k) :
    Wm lab' w' y x m (put0 c L0 L) (put1 c L1 L) (put0 c r0 r) (put1 c r1 r) B := by
  obtain ⟨a0, a1, K0, K1, hbr⟩ := h.br
  have hbr' := hbr.keep (w' := w') (lab' := lab') (fun k hk e => hb k hk (by omega) (by omega) (by omega) (by omega)) hl
  rcases (show c = 0 ∨ c = 1 by omega) with rfl | rfl
  · exact ⟨blk, (hl y (blk_lt h.blk)).trans h.ly, rows, h.l1.keep (fun k hk e => hb k hk (by omega) (by omega) (by omega) (by omega)) hl, ⟨a0, a1, K0, K1, hbr'⟩⟩
  · exact ⟨blk, (hl y (blk_lt h.blk)).trans h.ly, h.l0.keep (fun k hk e => hb k hk (by omega) (by omega) (by omega) (by omega)) hl, rows, ⟨a0, a1, K0, K1, hbr'⟩⟩

theorem StepW.set {a : Addr} {v : Value} (hl : lab a.block ≠ 0) : StepW lab lab w (w.setCell a v) :=
  ⟨rfl, rfl, rfl, by rw [setCell_size]; exact Nat.le_refl _, fun _ _ => rfl, fun k _ e => setCell_other _ _ _ (fun e1 => hl (by rw [← e1]; exact e))⟩

theorem set_pend (h : Wm lab w y x m L0 L1 r0 r1 B) (hc : c < 2) {g i : Nat} (hg : (atOf r0 r1 c).p = some ⟨g, 0, none⟩) :
    Wm lab (w.setCell ⟨g, i, none⟩ (.bool false)) y x m (put0 c L0 ((lgOf L0 L1 c).done i)) (put1 c L1 ((lgOf L0 L1 c).done i)) r0 r1 B ∧ StepW lab lab w (w.setCell ⟨g, i, none⟩ (.bool false)) := by
  have hL := h.lg hc
  have hp := hL.p
  simp only [Lg.vp, hg] at hp
  have hlg : lab g = 9 + c := hL.lp_ g (by simp [Lg.vp, hg, Value.ownBlock])
  have hgl := owns_lt hp (k := g) rfl
  obtain ⟨hp', _⟩ := hp.stored i (.bool false)
  have hoth : ∀ k, k ≠ g → (w.setCell ⟨g, i, none⟩ (.bool false)).heap[k]? = w.heap[k]? := fun k e => setCell_other _ _ _ e
  have hw : wdCells x (put0 c L0 ((lgOf L0 L1 c).done i)) (put1 c L1 ((lgOf L0 L1 c).done i)) (put0 c r0 (atOf r0 r1 c)) (put1 c r1 (atOf r0 r1 c)) = wdCells x L0 L1 r0 r1 := by
    rcases (show c = 0 ∨ c = 1 by omega) with rfl | rfl <;> simp [wdCells, Lg.done, put0, put1, lgOf, atOf]
  have hr0 : put0 c r0 (atOf r0 r1 c) = r0 := by rcases (show c = 0 ∨ c = 1 by omega) with rfl | rfl <;> rfl
  have hr1 : put1 c r1 (atOf r0 r1 c) = r1 := by rcases (show c = 0 ∨ c = 1 by omega) with rfl | rfl <;> rfl
  have hyg : y ≠ g := fun e => by have := h.ly; rw [e] at this; omega
  have T := h.turn (w' := w.setCell ⟨g, i, none⟩ (.bool false)) (lab' := lab) hc (L := (lgOf L0 L1 c).done i) (r := atOf r0 r1 c) (by rw [hw]; exact (hoth y hyg).trans h.blk)
    ⟨owns_keep hL.s (fun k e => hoth k (fun e1 => by have := hL.ls_ k e; rw [e1] at this; omega)), owns_keep hL.a (fun k e => hoth k (fun e1 => by have := hL.la_ k e; rw [e1] at this; omega)),
     by simp only [Lg.vp, Lg.done, List.length_set, hg]; simpa [List.map_set] using hp', hL.ls_, hL.la_, by simpa [Lg.vp, Lg.done, labelled] using hL.lp_⟩
    (fun k hk e1 e2 e3 e4 => hoth k (fun e => e4 (by rw [e]; exact hlg))) (fun _ _ => rfl)
  rw [hr0, hr1] at T
  exact ⟨T, StepW.set (by show lab g ≠ 0; omega)⟩

theorem set_ans (h : Wm lab w y x m L0 L1 r0 r1 B) (hc : c < 2) {g i : Nat} (hg : (atOf r0 r1 c).a = some ⟨g, 0, none⟩) (v : Int) :
    Wm lab (w.setCell ⟨g, i, none⟩ (.int .i64 v)) y x m (put0 c L0 ((lgOf L0 L1 c).answered i v)) (put1 c L1 ((lgOf L0 L1 c).answered i v)) r0 r1 B ∧ StepW lab lab w (w.setCell ⟨g, i, none⟩ (.int .i64 v)) := by
  have hL := h.lg hc
  have hp := hL.a
  simp only [Lg.va, hg] at hp
  have hlg : lab g = 7 + c := hL.la_ g (by simp [Lg.va, hg, Value.ownBlock])
  have hgl := owns_lt hp (k := g) rfl
  obtain ⟨hp', _⟩ := hp.stored i (.int .i64 v)
  have hoth : ∀ k, k ≠ g → (w.setCell ⟨g, i, none⟩ (.int .i64 v)).heap[k]? = w.heap[k]? := fun k e => setCell_other _ _ _ e
  have hw : wdCells x (put0 c L0 ((lgOf L0 L1 c).answered i v)) (put1 c L1 ((lgOf L0 L1 c).answered i v)) (put0 c r0 (atOf r0 r1 c)) (put1 c r1 (atOf r0 r1 c)) = wdCells x L0 L1 r0 r1 := by
    rcases (show c = 0 ∨ c = 1 by omega) with rfl | rfl <;> simp [wdCells, Lg.answered, put0, put1, lgOf, atOf]
  have hr0 : put0 c r0 (atOf r0 r1 c) = r0 := by rcases (show c = 0 ∨ c = 1 by omega) with rfl | rfl <;> rfl
  have hr1 : put1 c r1 (atOf r0 r1 c) = r1 := by rcases (show c = 0 ∨ c = 1 by omega) with rfl | rfl <;> rfl
  have hyg : y ≠ g := fun e => by have := h.ly; rw [e] at this; omega
  have T := h.turn (w' := w.setCell ⟨g, i, none⟩ (.int .i64 v)) (lab' := lab) hc (L := (lgOf L0 L1 c).answered i v) (r := atOf r0 r1 c) (by rw [hw]; exact (hoth y hyg).trans h.blk)
    ⟨owns_keep hL.s (fun k e => hoth k (fun e1 => by have := hL.ls_ k e; rw [e1] at this; omega)),
     by simp only [Lg.va, Lg.answered, List.length_set, hg]; simpa [List.map_set] using hp', owns_keep hL.p (fun k e => hoth k (fun e1 => by have := hL.lp_ k e; rw [e1] at this; omega)), hL.ls_, by simpa [Lg.va, Lg.answered, labelled] using hL.la_, hL.lp_⟩
    (fun k hk e1 e2 e3 e4 => hoth k (fun e => e3 (by rw [e]; exact hlg))) (fun _ _ => rfl)
  rw [hr0, hr1] at T
  exact ⟨T, StepW.set (by show lab g ≠ 0; omega)⟩

/-- Two rows of different types lie apart. -/
theorem rows_ne {w : World} {e e' size size' n n' base base' : Nat} {v v' : Value} {xs xs' : List Value} (h : w.ownsRow base e size v n xs) (h' : w.ownsRow base' e' size' v' n' xs') (hne : e ≠ e') {k : Nat} (hk : v.ownBlock = some k) : v'.ownBlock ≠ some k := by
  intro e1
  rcases h.2 with ⟨rfl, _⟩ | ⟨g, cap, cur, rfl, _, hg, _⟩
  · simp [Value.ownBlock] at hk
  · simp [Value.ownBlock] at hk
    subst hk
    exact owns_ne hg h' hne e1.symm

end

end Go.Proofs.Ytmfdhcnnhlchbaa

namespace Go.Proofs.Ytmfdhcnnhlchbaa
open Go.RowKit Go.Maps

abbrev tStep : TypeId := 45

/-- What a step of the ledger c leaves. -/
def TookTo (lab : Nat → Nat) (w : World) (y x : Nat) (m : Mod) (B : Nat) (L0 L1 : Lg) (w' : World) : Prop := ∃ lab' r0 r1, Wm lab' w' y x m L0 L1 r0 r1 B ∧ StepW lab lab' w w'

section
variable {lab : Nat → Nat} {w : World} {y x : Nat} {m : Mod} {L0 L1 : Lg} {r0 r1 : LgAt} {B c i : Nat} {k n seq : Int} {p : Pk}

theorem TookTo.mk {lab' : Nat → Nat} {w' : World} (h : Wm lab' w' y x m L0 L1 r0 r1 B) (st : StepW lab lab' w w') : TookTo lab w y x m B L0 L1 w' := ⟨lab', r0, r1, h, st⟩

/-- Where packet i of chain c is written down. -/
structure Seen (w : World) (y c i N gs cs ga ca gp cp : Nat) (v : Int) (b : Bool) : Prop where
  ys : w.cell? ⟨y, 1 + c, none⟩ = some (.slice (some ⟨gs, 0, none⟩) N cs)
  ya : w.cell? ⟨y, 3 + c, none⟩ = some (.slice (some ⟨ga, 0, none⟩) N ca)
  yp : w.cell? ⟨y, 5 + c, none⟩ = some (.slice (some ⟨gp, 0, none⟩) N cp)
  yb : ∃ x, w.cell? ⟨y, 0, none⟩ = some (.pointer (some ⟨x, 0, none⟩))
  yf : ∀ k, w.frozen? ⟨y, k, none⟩ = false
  a : w.cell? ⟨ga, i, none⟩ = some (.int .i64 v)
  af : ∀ k, w.frozen? ⟨ga, k, none⟩ = false
  p : w.cell? ⟨gp, i, none⟩ = some (.bool b)
  pf : ∀ k, w.frozen? ⟨gp, k, none⟩ = false
  lt : i < N
  le : N ≤ 100000

theorem Wm.see (h : Wm lab w y x m L0 L1 r0 r1 B) (hc : c < 2) (hl : Lens (lgOf L0 L1 c)) {v : Int} {b : Bool} (hv : (lgOf L0 L1 c).ans[i]? = some v) (hb : (lgOf L0 L1 c).pend[i]? = some b) :
    ∃ N gs cs ga ca gp cp, N = (lgOf L0 L1 c).sent.length ∧ (atOf r0 r1 c).s = some ⟨gs, 0, none⟩ ∧ (atOf r0 r1 c).a = some ⟨ga, 0, none⟩ ∧ (atOf r0 r1 c).p = some ⟨gp, 0, none⟩ ∧ Seen w y c i N gs cs ga ca gp cp v b := by
  obtain ⟨y0, y1, y2, y3, yf⟩ := h.cells hc
  have hL := h.lg hc
  have e1 := hl.a
  have e2 := hl.p
  have e3 := hl.s
  have hi := lt_of_some hv
  have hs := hL.s
  have ha := hL.a
  have hp := hL.p
  simp only [Lg.vs, Lg.va, Lg.vp] at y1 y2 y3 hs ha hp
  obtain ⟨gs, hgs⟩ := row_some hs (k := i) (by omega)
  obtain ⟨ga, hga⟩ := row_some ha (k := i) (by omega)
  obtain ⟨gp, hgp⟩ := row_some hp (k := i) (by omega)
  rw [hgs] at y1
  rw [hga] at y2 ha
  rw [hgp] at y3 hp
  rw [e1] at y2
  rw [e2] at y3
  exact ⟨_, gs, _, ga, _, gp, _, rfl, hgs, hga, hgp, ⟨y1, y2, y3, ⟨x, y0⟩, yf, one_at (enc := Value.int .i64) ha hv, fun k => ha.frozenAt k, one_at (enc := Value.bool) hp hb, fun k => hp.frozenAt k, by omega, e3⟩⟩

set_option maxRecDepth 100000 in
set_option maxHeartbeats 1600000 in
theorem took_other {c : Int} (h1 : ¬ k = 1) (h4 : ¬ k = 4) (h5 : ¬ k = 5) (h6 : ¬ k = 6) (h7 : ¬ k = 7) :
    Calls Try.prog 12 #[.pointer (some ⟨y, 0, none⟩), .int .i64 c, stepAgg k n p, .int .u64 seq] w fun e w' => e = .returned (.bool true) ∧ w.grownBy w' none := by
  obtain ⟨w1, hw1⟩ : ∃ w1 : World, w1 = w.alloc (.cells (stepArr k n p) tStep) := ⟨_, rfl⟩
  have g1 : w.grownBy w1 none := by rw [hw1]; exact World.grownBy_alloc _ _ _
  have hX1 : w1.heap[w.heap.size]? = some (.cells (stepArr k n p) tStep (0, 0)) := by rw [hw1]; exact heap_alloc_new w _
  obtain ⟨x0, x1, x2, x3, x4, x5, x6, x7, x8, xf⟩ := blk9c hX1
  have hzl : w.heap.size < w1.heap.size := blk_lt hX1
  go_enter Try.func12, Try.ntmps12
  go_wp2_with fail
  rw [← hw1]
  clear hw1
  go_wp2_with fail
  go_ret
  exact ⟨rfl, g1⟩

end

end Go.Proofs.Ytmfdhcnnhlchbaa
