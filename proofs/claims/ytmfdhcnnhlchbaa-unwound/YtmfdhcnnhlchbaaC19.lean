import Derived.Test.YtmfdhcnnhlchbaaC18
import Derived.Test.YtmfdhcnnhlchbaaC01
namespace Go.Proofs.Ytmfdhcnnhlchbaa
open Go.RowKit Go.Maps

abbrev pk0 : Pk := ⟨0, 0, 0, 0, 0, 0, 0⟩

/-- A step, and what is to come of it. -/
structure Dos where
  c : Int
  k : Int
  n : Int
  p : Pk
  rn : Int
  re : Int

def Dos.cells (d : Dos) : List Value := [.int .i64 d.c, .int .i64 d.k, .int .u64 d.n, .int .u64 d.p.seq, .int .i64 d.p.src, .int .i64 d.p.dst, .int .i64 d.p.coin, .int .u64 d.p.amount, .int .u64 d.p.height, .int .u64 d.p.time, .int .u64 d.rn, .int .i64 d.re]


def stepD (m : Mod) (d : Dos) : Mod × Int × Int := if d.c = 0 then doM m 0 d.k d.n d.p else if d.c = 1 then doM m 1 d.k d.n d.p else (m, 0, 1)

def okD (m : Mod) : List Dos → Bool
  | [] => true
  | d :: r => decide ((stepD m d).2.1 = d.rn ∧ (stepD m d).2.2 = d.re ∧ 0 ≤ d.n ∧ d.n < 18446744073709551616) && okD (stepD m d).1 r

def runD (m : Mod) (l : List Dos) : Mod := l.foldl (fun m d => (stepD m d).1) m

theorem okD_at : ∀ (l : List Dos) (m : Mod) (k : Nat) (d : Dos), okD m l = true → l[k]? = some d → ((stepD (runD m (l.take k)) d).2.1 = d.rn ∧ (stepD (runD m (l.take k)) d).2.2 = d.re ∧ 0 ≤ d.n ∧ d.n < 18446744073709551616) ∧ runD m (l.take (k + 1)) = (stepD (runD m (l.take k)) d).1
  | [], m, k, d, _, h => by simp at h
  | b :: r, m, 0, d, ho, h => by
    simp at h
    subst h
    unfold okD at ho
    rw [Bool.and_eq_true, decide_eq_true_eq] at ho
    exact ⟨ho.1, rfl⟩
  | b :: r, m, k + 1, d, ho, h => by
    unfold okD at ho
    rw [Bool.and_eq_true] at ho
    exact okD_at r (stepD m b).1 k d ho.2 (by simpa using h)

theorem taken_doM (m : Mod) (c : Nat) (k n : Int) (p : Pk) (T : Int) (h : 0 ≤ m.taken ∧ m.taken ≤ T) : 0 ≤ (doM m c k n p).1.taken ∧ (doM m c k n p).1.taken ≤ T + 1 := by
  unfold doM
  split <;> (simp only []; split <;> omega)

theorem taken_step (m : Mod) (d : Dos) (T : Int) (h : 0 ≤ m.taken ∧ m.taken ≤ T) : 0 ≤ (stepD m d).1.taken ∧ (stepD m d).1.taken ≤ T + 1 := by
  unfold stepD
  split
  · exact taken_doM m 0 d.k d.n d.p T h
  · split
    · exact taken_doM m 1 d.k d.n d.p T h
    · exact ⟨h.1, by simp only []; omega⟩

theorem dos_at : ∀ (l : List Dos) (i j : Nat) (y : Dos), l[i]? = some y → j < 12 → (l.flatMap Dos.cells)[i * 12 + j]? = y.cells[j]?
  | [], i, j, y, h, _ => by simp at h
  | b :: r, 0, j, y, h, hj => by
    simp at h
    subst h
    have hl : b.cells.length = 12 := rfl
    simp only [List.flatMap_cons, Nat.zero_mul, Nat.zero_add]
    rw [List.getElem?_append_left (by omega)]
  | b :: r, i + 1, j, y, h, hj => by
    have hl : b.cells.length = 12 := rfl
    simp only [List.flatMap_cons]
    rw [List.getElem?_append_right (by omega), hl, show (i + 1) * 12 + j - 12 = i * 12 + j from by omega]
    exact dos_at r i j y (by simpa using h) hj

theorem dos_cells {w : World} {g i : Nat} {l : List Dos} {y : Dos} {t : TypeId} (hb : w.heap[g]? = some (.cells (l.flatMap Dos.cells).toArray t (0, 0))) (hi : l[i]? = some y) :
    w.cell? ⟨g, i * 12, none⟩ = some (.int .i64 y.c) ∧ w.cell? ⟨g, i * 12 + 1, none⟩ = some (.int .i64 y.k) ∧ w.cell? ⟨g, i * 12 + 2, none⟩ = some (.int .u64 y.n) ∧ w.cell? ⟨g, i * 12 + 3, none⟩ = some (.int .u64 y.p.seq) ∧ w.cell? ⟨g, i * 12 + 4, none⟩ = some (.int .i64 y.p.src) ∧ w.cell? ⟨g, i * 12 + 5, none⟩ = some (.int .i64 y.p.dst) ∧ w.cell? ⟨g, i * 12 + 6, none⟩ = some (.int .i64 y.p.coin) ∧ w.cell? ⟨g, i * 12 + 7, none⟩ = some (.int .u64 y.p.amount) ∧ w.cell? ⟨g, i * 12 + 8, none⟩ = some (.int .u64 y.p.height) ∧ w.cell? ⟨g, i * 12 + 9, none⟩ = some (.int .u64 y.p.time) ∧ w.cell? ⟨g, i * 12 + 10, none⟩ = some (.int .u64 y.rn) ∧ w.cell? ⟨g, i * 12 + 11, none⟩ = some (.int .i64 y.re) := by
  have key : ∀ j v, y.cells[j]? = some v → w.cell? ⟨g, i * 12 + j, none⟩ = some v := by
    intro j v hv
    have hj : j < 12 := by have := (List.getElem?_eq_some_iff.1 hv).1; simpa [Dos.cells] using this
    simp only [World.cell?, hb]
    have := dos_at l i j y hi hj
    rw [hv] at this
    simpa using this
  exact ⟨key 0 _ rfl, key 1 _ rfl, key 2 _ rfl, key 3 _ rfl, key 4 _ rfl, key 5 _ rfl, key 6 _ rfl, key 7 _ rfl, key 8 _ rfl, key 9 _ rfl, key 10 _ rfl, key 11 _ rfl⟩

section
variable {lab : Nat → Nat} {w : World} {x : Nat} {m : Mod} {a0 a1 : DAt} {K0 K1 : Hd} {B : Nat}

theorem Br.mono {B' : Nat} (h : Br lab w x m a0 a1 K0 K1 B) (hB : B ≤ B') : Br lab w x m a0 a1 K0 K1 B' := ⟨h.c0.mono hB, h.c1.mono hB, h.k0, h.k1, h.h0, h.h1, h.lx⟩

theorem do_any (h : Br lab w x m a0 a1 K0 K1 B) (hB : B ≤ 8000000) (ht : 0 ≤ m.taken ∧ m.taken ≤ 9000000) (d : Dos) (hn : 0 ≤ d.n ∧ d.n < 18446744073709551616) :
    Calls Try.prog 10 #[.pointer (some ⟨x, 0, none⟩), .int .i64 d.c, stepAgg d.k d.n d.p] w fun e w' => e = .returned (.tuple #[.int .u64 (stepD m d).2.1, .int .i64 (stepD m d).2.2]) ∧ BrTo lab w x (stepD m d).1 (B + 4) w' := by
  unfold stepD
  by_cases h0 : d.c = 0
  · rw [if_pos h0, h0]; exact do0 h hB ht hn
  · by_cases h1 : d.c = 1
    · rw [if_neg h0, if_pos h1, h1]; exact do1 h hB ht hn
    · rw [if_neg h0, if_neg h1]
      refine (doNo h0 h1).mono ?_
      rintro e w' ⟨rfl, g⟩
      exact ⟨rfl, _, a0, a1, K0, K1, (h.fresh g).mono (by omega), StepB.of (grown_stepL (l := 1) (x := x) g) (.inl rfl) (by rw [h.lx]; decide)⟩

/-- Behind k steps of a run. -/
def RunAt (x : Nat) (lab0 : Nat → Nat) (W : World) (m : Mod) (L : List Dos) (k : Nat) (wr : World) : Prop :=
  ∃ lab' a0 a1 K0 K1, Br lab' wr x (runD m (L.take k)) a0 a1 K0 K1 (6 + 4 * k) ∧ StepB x lab0 lab' W wr ∧ 0 ≤ (runD m (L.take k)).taken ∧ (runD m (L.take k)).taken ≤ k

theorem StepB.refl (x : Nat) (lab : Nat → Nat) (w : World) : StepB x lab lab w w := ⟨rfl, rfl, rfl, Nat.le_refl _, fun _ _ => rfl, fun _ _ _ => rfl, fun k h1 h2 => by omega, fun _ _ _ => rfl⟩

theorem blk12c {w : World} {b t : Nat} {x0 x1 x2 x3 x4 x5 x6 x7 x8 x9 x10 x11 : Value} (h : w.heap[b]? = some (.cells #[x0, x1, x2, x3, x4, x5, x6, x7, x8, x9, x10, x11] t (0, 0))) :
    w.cell? ⟨b, 0, none⟩ = some x0 ∧ w.cell? ⟨b, 1, none⟩ = some x1 ∧ w.cell? ⟨b, 2, none⟩ = some x2 ∧ w.cell? ⟨b, 3, none⟩ = some x3 ∧ w.cell? ⟨b, 4, none⟩ = some x4 ∧ w.cell? ⟨b, 5, none⟩ = some x5 ∧ w.cell? ⟨b, 6, none⟩ = some x6 ∧ w.cell? ⟨b, 7, none⟩ = some x7 ∧ w.cell? ⟨b, 8, none⟩ = some x8 ∧ w.cell? ⟨b, 9, none⟩ = some x9 ∧ w.cell? ⟨b, 10, none⟩ = some x10 ∧ w.cell? ⟨b, 11, none⟩ = some x11 ∧ (∀ k, w.frozen? ⟨b, k, none⟩ = false) := by
  refine ⟨?_, ?_, ?_, ?_, ?_, ?_, ?_, ?_, ?_, ?_, ?_, ?_, ?_⟩
  all_goals first
    | (intro k; simp [World.frozen?, h])
    | simp [World.cell?, h]

abbrev Dos.arr (d : Dos) : Array Value := #[.int .i64 d.c, .int .i64 d.k, .int .u64 d.n, .int .u64 d.p.seq, .int .i64 d.p.src, .int .i64 d.p.dst, .int .i64 d.p.coin, .int .u64 d.p.amount, .int .u64 d.p.height, .int .u64 d.p.time, .int .u64 d.rn, .int .i64 d.re]

/-- One step of a run. -/
theorem run_step {lab0 : Nat → Nat} {W wr w1 : World} {L : List Dos} {k : Nat} {d : Dos} (hr : RunAt x lab0 W m L k wr) (hk : k ≤ 100) (ho : okD m L = true) (hd : L[k]? = some d) (g1 : wr.grownBy w1 none) :
    Calls Try.prog 10 #[.pointer (some ⟨x, 0, none⟩), .int .i64 d.c, stepAgg d.k d.n d.p] w1 fun e w' => e = .returned (.tuple #[.int .u64 d.rn, .int .i64 d.re]) ∧ RunAt x lab0 W m L (k + 1) w' ∧ (∀ z, wr.heap.size ≤ z → z < w1.heap.size → w'.heap[z]? = w1.heap[z]?) := by
  obtain ⟨lab', b0, b1, k0, k1, hb, st, t0, t1⟩ := hr
  obtain ⟨⟨e1, e2, n1⟩, e3⟩ := okD_at L m k d ho hd
  have hx := hb.lx
  refine (do_any (hb.fresh g1) (by omega) ⟨t0, by omega⟩ d n1).mono ?_
  rintro e w' ⟨rfl, lab2, c0, c1, l0, l1, hb2, st2⟩
  refine ⟨by rw [e1, e2], ⟨lab2, c0, c1, l0, l1, by rw [e3]; exact hb2, ?_, ?_⟩, fun z h1 h2 => st2.block z h2 (labN_new h1)⟩
  · exact (st.trans (StepB.of (grown_stepL (l := 1) (x := x) g1) (.inl rfl) (by rw [hx]; decide))).trans st2
  · have := taken_step (runD m (L.take k)) d k ⟨t0, t1⟩
    rw [e3]
    exact ⟨this.1, by have := this.2; omega⟩

/-- What was there ahead of New has not turned. -/
theorem run_grown {lab' : Nat → Nat} {w w0 W wr u : World} (h0 : w.grownBy w0 none) (hl : ∀ k, k < w.heap.size → lab k = 0) (hW : w0.grownBy W none) (st : StepB x (labN lab w0.heap.size) lab' W wr) (g : wr.grownBy u none) : w.grownBy u none := by
  have s1 := h0.size
  have s2 := hW.size
  refine ⟨g.os.trans (st.os.trans (hW.os.trans h0.os)), g.tape.trans (st.tape.trans (hW.tape.trans h0.tape)), g.output.trans (st.output.trans (hW.output.trans h0.output)), by have := g.size; have := st.size; omega, fun k hk _ => ?_⟩
  have e1 := h0.block k hk (by simp)
  have e2 := hW.block k (by omega) (by simp)
  have e3 := st.block k (by omega) (by rw [labN_old (by omega)]; exact hl k hk)
  have e4 := g.block k (by have := st.size; omega) (by simp)
  rw [e4, e3, e2, e1]

end

end Go.Proofs.Ytmfdhcnnhlchbaa

namespace Go.Proofs.Ytmfdhcnnhlchbaa
open Go.RowKit

/-- The ledger of one chain: what it has sent, what its packets' receiver has answered (0: nothing yet, 1: credited, 2: not), what is pending. -/
structure Lg where
  sent : List Pk
  ans : List Int
  pend : List Bool

def Lg.sends (L : Lg) (p : Pk) : Lg := { sent := L.sent ++ [p], ans := L.ans ++ [0], pend := L.pend ++ [true] }
def Lg.done (L : Lg) (i : Nat) : Lg := { L with pend := L.pend.set i false }
def Lg.answered (L : Lg) (i : Nat) (v : Int) : Lg := { L with ans := L.ans.set i v }

/-- A packet as the chain numbers it. -/
def numbered (q : Pk) (i : Nat) : Pk := { q with seq := (i : Int) + 1 }

/-- S sends, R receives: what the ledger has to do with both. -/
structure Side (S R : Ch) (L : Lg) : Prop where
  la : L.ans.length = L.sent.length
  lp : L.pend.length = L.sent.length
  next : S.nextSend = L.sent.length + 1
  pk : ∀ p, p ∈ S.hd.packets ↔ ∃ i q, L.sent[i]? = some q ∧ L.pend[i]? = some true ∧ p = numbered q i
  sorted : S.hd.packets.Pairwise (fun p q => p.seq < q.seq)
  rn : R.hd.nextRecv = R.hd.answers.length + 1
  rl : R.hd.answers.length ≤ L.sent.length
  an : ∀ i q, L.sent[i]? = some q → L.ans[i]? = some (if i < R.hd.answers.length then (if goodTo q then 1 else 2) else 0)
  ra : ∀ i q, L.sent[i]? = some q → i < R.hd.answers.length → R.hd.answers[i]? = some ((i : Int) + 1, goodTo q)
  gone : ∀ i q, L.sent[i]? = some q → L.pend[i]? = some false → R.hd.answers.length ≤ i → dueB q R.hd.height R.hd.time = true ∨ R.hd.isOpen = false
  hist : ∀ H ∈ S.heads, ∀ p ∈ H.packets, ∃ i q, L.sent[i]? = some q ∧ p = numbered q i
  rh : ∀ H ∈ R.heads, H.height ≤ R.hd.height ∧ H.time ≤ R.hd.time ∧ (R.hd.isOpen = true → H.isOpen = true) ∧ H.nextRecv = H.answers.length + 1 ∧ H.answers <+: R.hd.answers
  late : ∀ H ∈ R.heads, ∀ i q, L.sent[i]? = some q → H.answers.length ≤ i → i < R.hd.answers.length → dueB q H.height H.time = false ∧ H.isOpen = true
  kn : S.known < R.heads.length

theorem due_mono {p : Pk} {h t h' t' : Int} (hh : h ≤ h') (ht : t ≤ t') (d : dueB p h t = true) : dueB p h' t' = true := by
  simp [dueB] at *
  omega

theorem due_num (q : Pk) (i : Nat) (h t : Int) : dueB (numbered q i) h t = dueB q h t := rfl

theorem side_new (coins : Int) (a b : Int) : Side (newCh a coins) (newCh b coins) { sent := [], ans := [], pend := [] } where
  la := rfl
  lp := rfl
  next := by simp [newCh, rawCh]
  pk p := by simp [newCh, rawCh, newHd]
  sorted := by simp [newCh, rawCh, newHd]
  rn := by simp [newCh, rawCh, newHd]
  rl := by simp [newCh, rawCh, newHd]
  an i q h := by simp at h
  ra i q h := by simp at h
  gone i q h := by simp at h
  hist H hH p hp := by simp [newCh] at hH; subst hH; simp [newHd] at hp
  rh H hH := by simp [newCh] at hH; subst hH; simp [newCh, rawCh, newHd]
  late H hH i q h := by simp at h
  kn := by simp [newCh, rawCh]

section
variable {S R S' R' : Ch} {L : Lg}

/-- The sender turns in what the ledger does not say. -/
theorem Side.sender (h : Side S R L) (e1 : S'.nextSend = S.nextSend) (e2 : S'.hd.packets = S.hd.packets) (e3 : S'.heads = S.heads) (e4 : S'.known < R.heads.length) : Side S' R L where
  la := h.la
  lp := h.lp
  next := by rw [e1]; exact h.next
  pk := by rw [e2]; exact h.pk
  sorted := by rw [e2]; exact h.sorted
  rn := h.rn
  rl := h.rl
  an := h.an
  ra := h.ra
  gone := h.gone
  hist := by rw [e3]; exact h.hist
  rh := h.rh
  late := h.late
  kn := e4

/-- The receiver closes, or turns in what the ledger does not say. -/
theorem Side.receiver (h : Side S R L) (e1 : R'.hd.nextRecv = R.hd.nextRecv) (e2 : R'.hd.answers = R.hd.answers) (e3 : R'.heads = R.heads) (e4 : R'.hd.height = R.hd.height) (e5 : R'.hd.time = R.hd.time) (e6 : R'.hd.isOpen = R.hd.isOpen ∨ R'.hd.isOpen = false) : Side S R' L where
  la := h.la
  lp := h.lp
  next := h.next
  pk := h.pk
  sorted := h.sorted
  rn := by rw [e1, e2]; exact h.rn
  rl := by rw [e2]; exact h.rl
  an := by rw [e2]; exact h.an
  ra := by rw [e2]; exact h.ra
  gone := fun i q h1 h2 h3 => by
    rw [e2] at h3
    rw [e4, e5]
    rcases h.gone i q h1 h2 h3 with h4 | h4
    · exact .inl h4
    · rcases e6 with e6 | e6
      · exact .inr (e6.trans h4)
      · exact .inr e6
  hist := h.hist
  rh := fun H hH => by
    rw [e3] at hH
    obtain ⟨a, b, c, d, e⟩ := h.rh H hH
    rw [e4, e5, e2]
    refine ⟨a, b, fun ho => ?_, d, e⟩
    rcases e6 with e6 | e6
    · exact c (by rw [← e6]; exact ho)
    · rw [e6] at ho; cases ho
  late := by rw [e3, e2]; exact h.late
  kn := by rw [e3]; exact h.kn

/-- The sender has a header more: of what there is. -/
theorem Side.senderTick (h : Side S R L) {H : Hd} (e1 : S'.nextSend = S.nextSend) (e2 : S'.hd.packets = S.hd.packets) (e3 : S'.heads = S.heads ++ [H]) (e4 : S'.known = S.known) (e5 : H.packets = S.hd.packets) : Side S' R L where
  la := h.la
  lp := h.lp
  next := by rw [e1]; exact h.next
  pk := by rw [e2]; exact h.pk
  sorted := by rw [e2]; exact h.sorted
  rn := h.rn
  rl := h.rl
  an := h.an
  ra := h.ra
  gone := h.gone
  hist := fun G hG p hp => by
    rw [e3] at hG
    simp at hG
    rcases hG with hG | rfl
    · exact h.hist G hG p hp
    · rw [e5] at hp
      obtain ⟨i, q, h1, _, h3⟩ := (h.pk p).1 hp
      exact ⟨i, q, h1, h3⟩
  rh := h.rh
  late := h.late
  kn := by rw [e4]; exact h.kn

theorem Side.receiverTick (h : Side S R L) (e1 : R'.hd.nextRecv = R.hd.nextRecv) (e2 : R'.hd.answers = R.hd.answers) (e3 : R'.heads = R.heads ++ [R'.hd]) (e4 : R.hd.height ≤ R'.hd.height) (e5 : R.hd.time ≤ R'.hd.time) (e6 : R'.hd.isOpen = R.hd.isOpen) : Side S R' L where
  la := h.la
  lp := h.lp
  next := h.next
  pk := h.pk
  sorted := h.sorted
  rn := by rw [e1, e2]; exact h.rn
  rl := by rw [e2]; exact h.rl
  an := by rw [e2]; exact h.an
  ra := by rw [e2]; exact h.ra
  gone := fun i q h1 h2 h3 => by
    rw [e2] at h3
    rcases h.gone i q h1 h2 h3 with h4 | h4
    · exact .inl (due_mono e4 e5 h4)
    · exact .inr (e6.trans h4)
  hist := h.hist
  rh := fun H hH => by
    rw [e3] at hH
    simp at hH
    rcases hH with hH | rfl
    · obtain ⟨a, b, c, d, e⟩ := h.rh H hH
      rw [e2]
      exact ⟨by omega, by omega, fun ho => c (by rw [← e6]; exact ho), d, e⟩
    · exact ⟨Int.le_refl _, Int.le_refl _, id, by rw [e1, e2]; exact h.rn, List.prefix_rfl⟩
  late := fun H hH i q h1 h2 h3 => by
    rw [e3] at hH
    simp at hH
    rw [e2] at h3
    rcases hH with hH | rfl
    · exact h.late H hH i q h1 h2 h3
    · rw [e2] at h2; omega
  kn := by rw [e3]; simp; have := h.kn; omega

theorem get_append_some {α : Type} {l : List α} {x y : α} {i : Nat} (h : (l ++ [x])[i]? = some y) : l[i]? = some y ∨ (i = l.length ∧ y = x) := by
  rcases Nat.lt_or_ge i l.length with hi | hi
  · rw [List.getElem?_append_left hi] at h; exact .inl h
  · rw [List.getElem?_append_right hi] at h
    rcases Nat.eq_zero_or_pos (i - l.length) with h0 | h0
    · rw [h0] at h; simp at h; exact .inr ⟨by omega, h.symm⟩
    · rw [List.getElem?_eq_none (by simp; omega)] at h; cases h

theorem lt_of_some {α : Type} {l : List α} {x : α} {i : Nat} (h : l[i]? = some x) : i < l.length := (List.getElem?_eq_some_iff.1 h).1

/-- A packet is sent. -/
theorem Side.send (h : Side S R L) {p : Pk} (e1 : S'.nextSend = S.nextSend + 1) (e2 : S'.hd.packets = S.hd.packets ++ [numbered p L.sent.length]) (e3 : S'.heads = S.heads) (e4 : S'.known = S.known) : Side S' R (L.sends p) where
  la := by simp [Lg.sends, h.la]
  lp := by simp [Lg.sends, h.lp]
  next := by rw [e1, h.next]; simp [Lg.sends]
  pk := fun r => by
    rw [e2]
    simp only [List.mem_append, List.mem_singleton, h.pk, Lg.sends]
    constructor
    · rintro (⟨i, q, h1, h2, rfl⟩ | rfl)
      · have := lt_of_some h1
        exact ⟨i, q, by rw [List.getElem?_append_left this]; exact h1, by rw [List.getElem?_append_left (by rw [h.lp]; exact this)]; exact h2, rfl⟩
      · exact ⟨L.sent.length, p, by simp, by rw [← h.lp]; simp, rfl⟩
    · rintro ⟨i, q, h1, h2, rfl⟩
      rcases get_append_some h1 with h1 | ⟨rfl, rfl⟩
      · have := lt_of_some h1
        rw [List.getElem?_append_left (by rw [h.lp]; exact this)] at h2
        exact .inl ⟨i, q, h1, h2, rfl⟩
      · exact .inr rfl
  sorted := by
    rw [e2, List.pairwise_append]
    refine ⟨h.sorted, by simp, fun a ha b hb => ?_⟩
    obtain ⟨i, q, h1, _, rfl⟩ := (h.pk a).1 ha
    simp at hb
    subst hb
    have := lt_of_some h1
    simp [numbered]
    omega
  rn := h.rn
  rl := by have := h.rl; simp [Lg.sends]; omega
  an := fun i q h1 => by
    rcases get_append_some h1 with h1 | ⟨rfl, rfl⟩
    · have := lt_of_some h1
      show (L.ans ++ [0])[i]? = _
      rw [List.getElem?_append_left (by rw [h.la]; exact this)]
      exact h.an i q h1
    · show (L.ans ++ [0])[L.sent.length]? = _
      rw [← h.la, List.getElem?_append_right (Nat.le_refl _), if_neg (by have := h.rl; have := h.la; omega)]
      simp
  ra := fun i q h1 h2 => by
    rcases get_append_some h1 with h1 | ⟨rfl, rfl⟩
    · exact h.ra i q h1 h2
    · have := h.rl; omega
  gone := fun i q h1 h2 h3 => by
    have h2' : (L.pend ++ [true])[i]? = some false := h2
    rcases get_append_some h1 with h1 | ⟨rfl, rfl⟩
    · have := lt_of_some h1
      rw [List.getElem?_append_left (by rw [h.lp]; exact this)] at h2'
      exact h.gone i q h1 h2' h3
    · rw [← h.lp, List.getElem?_append_right (Nat.le_refl _)] at h2'
      simp at h2'
  hist := fun H hH r hr => by
    rw [e3] at hH
    obtain ⟨i, q, h1, h2⟩ := h.hist H hH r hr
    exact ⟨i, q, by show (L.sent ++ [p])[i]? = _; rw [List.getElem?_append_left (lt_of_some h1)]; exact h1, h2⟩
  rh := h.rh
  late := fun H hH i q h1 h2 h3 => by
    rcases get_append_some h1 with h1 | ⟨rfl, rfl⟩
    · exact h.late H hH i q h1 h2 h3
    · have := h.rl; omega
  kn := by rw [e4]; exact h.kn

theorem mem_eraseP_seq {l : List Pk} {k : Int} {r : Pk} (hs : l.Pairwise (fun p q => p.seq < q.seq)) : r ∈ l.eraseP (fun p => p.seq == k) ↔ r ∈ l ∧ r.seq ≠ k := by
  induction l with
  | nil => simp
  | cons a l ih =>
    rw [List.pairwise_cons] at hs
    rw [List.eraseP_cons]
    by_cases e : a.seq = k
    · simp only [e, beq_self_eq_true, cond_true]
      constructor
      · intro h1
        have := hs.1 r h1
        exact ⟨List.mem_cons_of_mem _ h1, by omega⟩
      · rintro ⟨h1, h2⟩
        simp at h1
        rcases h1 with rfl | h1
        · exact absurd e h2
        · exact h1
    · have e' : (a.seq == k) = false := by simpa using e
      simp only [e', cond_false, List.mem_cons, ih hs.2]
      constructor
      · rintro (rfl | ⟨h1, h2⟩)
        · exact ⟨.inl rfl, e⟩
        · exact ⟨.inr h1, h2⟩
      · rintro ⟨rfl | h1, h2⟩
        · exact .inl rfl
        · exact .inr ⟨h1, h2⟩

/-- A packet is gone from among the pending ones: it was answered, or it is due, or the other is closed. -/
theorem Side.done (h : Side S R L) {i : Nat} {q0 : Pk} (hi : L.sent[i]? = some q0) (e1 : S'.nextSend = S.nextSend) (e2 : S'.hd.packets = S.hd.packets.eraseP (fun p => p.seq == (i : Int) + 1)) (e3 : S'.heads = S.heads) (e4 : S'.known = S.known)
    (hw : i < R.hd.answers.length ∨ dueB q0 R.hd.height R.hd.time = true ∨ R.hd.isOpen = false) : Side S' R (L.done i) where
  la := h.la
  lp := by simp [Lg.done, h.lp]
  next := by rw [e1]; exact h.next
  pk := fun r => by
    rw [e2]
    have hm : r ∈ S.hd.packets.eraseP (fun p => p.seq == (i : Int) + 1) ↔ r ∈ S.hd.packets ∧ r.seq ≠ (i : Int) + 1 := mem_eraseP_seq h.sorted
    rw [hm, h.pk]
    simp only [Lg.done, List.getElem?_set]
    constructor
    · rintro ⟨⟨j, q, h1, h2, rfl⟩, h3⟩
      refine ⟨j, q, h1, ?_, rfl⟩
      rw [if_neg (fun e => h3 (by subst e; rfl))]
      exact h2
    · rintro ⟨j, q, h1, h2, rfl⟩
      by_cases e : i = j
      · subst e
        rw [if_pos rfl] at h2
        split at h2 <;> cases h2
      · rw [if_neg e] at h2
        exact ⟨⟨j, q, h1, h2, rfl⟩, by simp [numbered]; omega⟩
  sorted := by rw [e2]; exact h.sorted.sublist List.eraseP_sublist
  rn := h.rn
  rl := h.rl
  an := h.an
  ra := h.ra
  gone := fun j q h1 h2 h3 => by
    simp only [Lg.done, List.getElem?_set] at h2
    by_cases e : i = j
    · subst e
      have : q = q0 := by have h1' : L.sent[i]? = some q := h1; rw [hi] at h1'; cases h1'; rfl
      subst this
      rcases hw with hw | hw
      · omega
      · exact hw
    · rw [if_neg e] at h2
      exact h.gone j q h1 h2 h3
  hist := by rw [e3]; exact h.hist
  rh := h.rh
  late := h.late
  kn := by rw [e4]; exact h.kn

end

end Go.Proofs.Ytmfdhcnnhlchbaa

namespace Go.Proofs.Ytmfdhcnnhlchbaa
open Go.RowKit

section
variable {S R S' R' : Ch} {L : Lg}

/-- A packet is received: the next one, which is not due; the receiver is open. -/
theorem Side.recv (h : Side S R L) {i : Nat} {q0 : Pk} (hi : L.sent[i]? = some q0) (hr : R.hd.answers.length = i) (hd : dueB q0 R.hd.height R.hd.time = false) (ho : R.hd.isOpen = true)
    (e1 : R'.hd.nextRecv = R.hd.nextRecv + 1) (e2 : R'.hd.answers = R.hd.answers ++ [((i : Int) + 1, goodTo q0)]) (e3 : R'.heads = R.heads) (e4 : R'.hd.height = R.hd.height) (e5 : R'.hd.time = R.hd.time) (e6 : R'.hd.isOpen = R.hd.isOpen) :
    Side S R' (L.answered i (if goodTo q0 then 1 else 2)) := by
  have hil := lt_of_some hi
  have hl2 : R'.hd.answers.length = i + 1 := by rw [e2]; simp [hr]
  exact {
    la := by simp [Lg.answered, h.la]
    lp := h.lp
    next := h.next
    pk := h.pk
    sorted := h.sorted
    rn := by rw [e1, h.rn, hl2, hr]; simp
    rl := by rw [hl2]; exact hil
    an := fun j q h1 => by
      simp only [Lg.answered, List.getElem?_set]
      rw [hl2]
      by_cases e : i = j
      · subst e
        have h1' : L.sent[i]? = some q := h1
        rw [hi] at h1'
        cases h1'
        rw [if_pos rfl, if_pos (show i < L.ans.length by rw [h.la]; exact hil), if_pos (show i < i + 1 by omega)]
      · rw [if_neg e, h.an j q h1, hr]
        by_cases e2 : j < i
        · rw [if_pos e2, if_pos (show j < i + 1 by omega)]
        · rw [if_neg e2, if_neg (show ¬ j < i + 1 by omega)]
    ra := fun j q h1 h2 => by
      rw [hl2] at h2
      rw [e2]
      by_cases e : j = i
      · subst e
        have h1' : L.sent[j]? = some q := h1
        rw [hi] at h1'
        cases h1'
        rw [List.getElem?_append_right (by omega)]
        simp [hr]
      · rw [List.getElem?_append_left (by omega)]
        exact h.ra j q h1 (by omega)
    gone := fun j q h1 h2 h3 => by
      rw [hl2] at h3
      rw [e4, e5, e6]
      exact h.gone j q h1 h2 (by omega)
    hist := h.hist
    rh := fun H hH => by
      rw [e3] at hH
      obtain ⟨a, b, c, d, e⟩ := h.rh H hH
      rw [e4, e5, e6, e2]
      exact ⟨a, b, c, d, e.trans (List.prefix_append _ _)⟩
    late := fun H hH j q h1 h2 h3 => by
      rw [e3] at hH
      rw [hl2] at h3
      by_cases e : j = i
      · subst e
        have h1' : L.sent[j]? = some q := h1
        rw [hi] at h1'
        cases h1'
        obtain ⟨a, b, c, _⟩ := h.rh H hH
        refine ⟨?_, c ho⟩
        cases hc : dueB q0 H.height H.time with
        | false => rfl
        | true => rw [due_mono a b hc] at hd; cases hd
      · exact h.late H hH j q h1 h2 (by omega)
    kn := by rw [e3]; exact h.kn }

theorem known_mem (h : Side S R L) : knownHd S R ∈ R.heads := by
  unfold knownHd
  rw [List.getElem?_eq_getElem h.kn]
  exact List.getElem_mem h.kn

/-- What was received is possible (the receiver's step: 'R' steps, 'S' is the other). -/
theorem recv_ok (h : Side S R L) (hk : R.known < S.heads.length) {n : Int} (hn : R.hd.answers.length < 1000000) (hok : (recvC R n (knownHd R S)).2.2 = 0) :
    ∃ (i : Nat) (q : Pk), n = (i : Int) + 1 ∧ L.sent[i]? = some q ∧ L.pend[i]? = some true ∧ L.ans[i]? = some 0 ∧ (∀ j, j + 1 = i → ∃ v, L.ans[j]? = some v ∧ v ≠ 0) ∧ (recvC R n (knownHd R S)).2.1 = 0 ∧
      Side S (recvC R n (knownHd R S)).1 (L.answered i (if goodTo q then 1 else 2)) := by
  have hm : knownHd R S ∈ S.heads := by
    unfold knownHd
    rw [List.getElem?_eq_getElem hk]
    exact List.getElem_mem hk
  generalize knownHd R S = K at hok hm ⊢
  unfold recvC at hok ⊢
  by_cases ho : R.hd.isOpen = false
  · rw [if_pos ho] at hok; cases hok
  rw [if_neg ho] at hok ⊢
  by_cases hne : n ≠ R.hd.nextRecv
  · rw [if_pos hne] at hok; cases hok
  rw [if_neg hne] at hok ⊢
  have hnr : n = R.hd.nextRecv := by simpa using hne
  cases hf : K.packets.find? (fun p => p.seq == n) with
  | none => rw [hf] at hok; cases hok
  | some p =>
    rw [hf] at hok
    simp only at hok ⊢
    have hp := List.mem_of_find?_eq_some hf
    have hps : p.seq = n := by simpa using List.find?_some hf
    obtain ⟨i, q, h1, rfl⟩ := h.hist K hm p hp
    by_cases hdu : dueB (numbered q i) R.hd.height R.hd.time = true
    · rw [if_pos hdu] at hok; cases hok
    rw [if_neg hdu]
    rw [due_num] at hdu
    have hdu' : dueB q R.hd.height R.hd.time = false := by simpa using hdu
    have hni : n = (i : Int) + 1 := hps.symm
    have hri : R.hd.answers.length = i := by have := h.rn; omega
    have ho' : R.hd.isOpen = true := by simpa using ho
    have hil := lt_of_some h1
    have hpl : i < L.pend.length := by rw [h.lp]; exact hil
    have hpe : L.pend[i]? = some true := by
      cases hb : L.pend[i]? with
      | none => rw [List.getElem?_eq_none_iff] at hb; omega
      | some b =>
        cases b with
        | true => rfl
        | false =>
          rcases h.gone i q h1 hb (by omega) with e | e
          · rw [hdu'] at e; cases e
          · rw [ho'] at e; cases e
    refine ⟨i, q, hni, h1, hpe, ?_, ?_, rfl, ?_⟩
    · rw [h.an i q h1, if_neg (by omega)]
    · intro j hj
      have hjl : j < L.sent.length := by omega
      have := h.an j L.sent[j] (List.getElem?_eq_getElem hjl)
      rw [if_pos (show j < R.hd.answers.length by omega)] at this
      exact ⟨_, this, by split <;> decide⟩
    · have hg : goodTo (numbered q i) = goodTo q := rfl
      have hw : IntKind.u64.wrap (R.hd.nextRecv + 1) = R.hd.nextRecv + 1 := by rw [IntKind.wrap_u64]; have := h.rn; omega
      refine h.recv h1 hri hdu' ho' ?_ ?_ ?_ ?_ ?_ ?_
      all_goals
        rw [hg]
        by_cases hgt : goodTo q = true <;> simp [hgt, Ch.credit, Ch.put, hw, hni]

theorem find_mem_seq {l : List Pk} {n : Int} {p : Pk} (h : l.find? (fun p => p.seq == n) = some p) : p ∈ l ∧ p.seq = n := ⟨List.mem_of_find?_eq_some h, by simpa using List.find?_some h⟩

/-- An answer that came back is possible. -/
theorem ack_ok (h : Side S R L) {n : Int} (hok : (ackC S n (knownHd S R)).2.2 = 0) :
    ∃ (i : Nat) (q : Pk) (v : Int), n = (i : Int) + 1 ∧ L.sent[i]? = some q ∧ L.pend[i]? = some true ∧ L.ans[i]? = some v ∧ v ≠ 0 ∧ (∀ j, j < i → L.pend[j]? = some false) ∧ (ackC S n (knownHd S R)).2.1 = 0 ∧
      Side (ackC S n (knownHd S R)).1 R (L.done i) := by
  have hm := known_mem h
  generalize knownHd S R = K at hok hm ⊢
  unfold ackC at hok ⊢
  cases hf : S.hd.packets.find? (fun p => p.seq == n) with
  | none => rw [hf] at hok; cases hok
  | some p =>
    rw [hf] at hok
    simp only at hok ⊢
    obtain ⟨hp, hps⟩ := find_mem_seq hf
    obtain ⟨i, q, h1, h2, rfl⟩ := (h.pk p).1 hp
    have hni : n = (i : Int) + 1 := hps.symm
    by_cases hh : (S.hd.packets.head?.map (fun q => q.seq == n)) = some false
    · rw [if_pos hh] at hok; cases hok
    rw [if_neg hh] at hok ⊢
    cases ha : K.answers.find? (fun a => a.1 == n) with
    | none => rw [ha] at hok; cases hok
    | some a =>
      simp only
      have ham := List.mem_of_find?_eq_some ha
      have has : a.1 = n := by simpa using List.find?_some ha
      obtain ⟨_, _, _, _, hpre⟩ := h.rh K hm
      have ham2 : a ∈ R.hd.answers := hpre.subset ham
      obtain ⟨j, hj⟩ := List.getElem?_of_mem ham2
      have hjl := lt_of_some hj
      have hjs : j < L.sent.length := by have := h.rl; omega
      have hra := h.ra j L.sent[j] (List.getElem?_eq_getElem hjs) hjl
      rw [hj] at hra
      have hji : j = i := by have : a.1 = (j : Int) + 1 := by cases hra; rfl
                             omega
      subst hji
      refine ⟨j, q, if goodTo q then 1 else 2, hni, h1, h2, by rw [h.an j q h1, if_pos hjl], by split <;> decide, ?_, by first | rfl | trivial, ?_⟩
      · intro k hk
        have hkl : k < L.sent.length := by omega
        cases hb : L.pend[k]? with
        | none => rw [List.getElem?_eq_none_iff, h.lp] at hb; omega
        | some b =>
          cases b with
          | false => rfl
          | true =>
            have hkm := (h.pk (numbered L.sent[k] k)).2 ⟨k, _, List.getElem?_eq_getElem hkl, hb, rfl⟩
            exfalso
            cases hpk : S.hd.packets with
            | nil => rw [hpk] at hkm; simp at hkm
            | cons x r =>
              rw [hpk] at hh hkm hp
              have hso := h.sorted
              rw [hpk, List.pairwise_cons] at hso
              have hx : x.seq = n := by
                by_cases e : x.seq = n
                · exact e
                · exact absurd (by simp [e]) hh
              simp at hkm
              rcases hkm with e | e
              · have : x.seq = (k : Int) + 1 := by rw [← e]; rfl
                omega
              · have := hso.1 _ e
                simp [numbered] at this
                omega
      · split
        · exact h.done h1 rfl (by rw [hni]; rfl) rfl rfl (.inl hjl)
        · exact h.done h1 (by simp [Ch.credit, Ch.put, Ch.gone]) (by rw [hni]; rfl) (by simp [Ch.credit, Ch.put, Ch.gone]) (by simp [Ch.credit, Ch.put, Ch.gone]) (.inl hjl)

/-- A packet that came back is possible: it was not answered. -/
theorem back_ok (h : Side S R L) {n : Int} {cl : Bool} (hok : (backC S n (knownHd S R) cl).2.2 = 0) :
    ∃ (i : Nat) (q : Pk), n = (i : Int) + 1 ∧ L.sent[i]? = some q ∧ L.pend[i]? = some true ∧ L.ans[i]? = some 0 ∧ (backC S n (knownHd S R) cl).2.1 = 0 ∧ (backC S n (knownHd S R) cl).1.hd.isOpen = false ∧
      Side (backC S n (knownHd S R) cl).1 R (L.done i) := by
  have hm := known_mem h
  generalize knownHd S R = K at hok hm ⊢
  unfold backC at hok ⊢
  cases hf : S.hd.packets.find? (fun p => p.seq == n) with
  | none => rw [hf] at hok; cases hok
  | some p =>
    rw [hf] at hok
    simp only at hok ⊢
    obtain ⟨hp, hps⟩ := find_mem_seq hf
    obtain ⟨i, q, h1, h2, rfl⟩ := (h.pk p).1 hp
    have hni : n = (i : Int) + 1 := hps.symm
    rw [due_num] at hok ⊢
    by_cases c1 : (cl && K.isOpen) = true
    · rw [if_pos c1] at hok; cases hok
    rw [if_neg c1] at hok ⊢
    by_cases c2 : ((!cl && !dueB q K.height K.time) || decide (n < K.nextRecv)) = true
    · rw [if_pos c2] at hok; cases hok
    rw [if_neg c2]
    simp only [Bool.not_eq_true, Bool.or_eq_false_iff, decide_eq_false_iff_not, Bool.and_eq_false_imp] at c1 c2
    obtain ⟨hh, ht, hop, hnr, hpre⟩ := h.rh K hm
    have hKi : K.answers.length ≤ i := by omega
    have hwhy : dueB q K.height K.time = true ∨ K.isOpen = false := by
      cases cl with
      | true => exact .inr (c1 rfl)
      | false => have := c2.1 rfl; exact .inl (by simpa using this)
    have hri : R.hd.answers.length ≤ i := by
      rcases Nat.lt_or_ge i R.hd.answers.length with e | e
      · obtain ⟨l1, l2⟩ := h.late K hm i q h1 hKi e
        rcases hwhy with e1 | e1
        · rw [l1] at e1; cases e1
        · rw [l2] at e1; cases e1
      · exact e
    refine ⟨i, q, hni, h1, h2, by rw [h.an i q h1, if_neg (by omega)], rfl, rfl, ?_⟩
    refine h.done h1 (by simp [Ch.credit, Ch.put, Ch.gone]) (by rw [hni]; simp [Ch.credit, Ch.put, Ch.gone]) (by simp [Ch.credit, Ch.put, Ch.gone]) (by simp [Ch.credit, Ch.put, Ch.gone]) (.inr ?_)
    rcases hwhy with e | e
    · exact .inl (due_mono hh ht e)
    · cases ho : R.hd.isOpen with
      | false => exact .inr rfl
      | true => rw [hop ho] at e; cases e

end

end Go.Proofs.Ytmfdhcnnhlchbaa
