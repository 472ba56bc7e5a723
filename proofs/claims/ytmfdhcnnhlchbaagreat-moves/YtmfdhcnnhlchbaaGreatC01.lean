import Derived.Test.YtmfdhcnnhlchbaaGreatRows
import Derived.WalkKit
import Derived.WalkSpells
import Derived.WalkLawsBesides
import Derived.Deep.RegionLaw
namespace Go.Proofs.YtmfdhcnnhlchbaaGreat
open Go.RowKit

/-- What an append takes from: a slice value and the cells that it reads. -/
def srcRow (w : World) (size : Nat) (x : Value) (m : Nat) (news : List Value) : Prop :=
  news.length = m * size ∧ ((x = .slice none 0 0 ∧ m = 0) ∨ ∃ ad c, x = .slice (some ad) m c ∧ ∀ j u, news[j]? = some u → w.cell? (ad.add j) = some u)

theorem srcRow_of_owns {w : World} {base e size : Nat} {v : Value} {n : Nat} {xs : List Value} (h : w.ownsRow base e size v n xs) : srcRow w size v n xs := by
  refine ⟨h.1, ?_⟩
  rcases h.2 with ⟨rfl, rfl⟩ | ⟨g, cap, cur, rfl, hb, hg, hn, hc, hs, ht⟩
  · exact .inl ⟨rfl, rfl⟩
  · exact .inr ⟨_, _, rfl, h.cells rfl⟩

theorem owns_base {w : World} {base e size : Nat} {v : Value} {n : Nat} {xs : List Value} (h : w.ownsRow base e size v n xs) : w.ownsRow 0 e size v n xs := by
  refine ⟨h.1, ?_⟩
  rcases h.2 with hn | ⟨g, cap, cur, rfl, _, rest⟩
  · exact .inl hn
  · exact .inr ⟨g, cap, cur, rfl, Nat.zero_le _, rest⟩

/-- The block of what an append gives is the old one, or new. -/
def fresh (w : World) (v v' : Value) : Prop := ∀ k, v'.ownBlock = some k → v.ownBlock = some k ∨ w.heap.size ≤ k

theorem run_append_rows {P : Program} (w : World) (t ty e : TypeId) (i : TypeInfo) (z : Value) (size bytes : Nat) (ht : P.underlying t = some (.slice e)) (hi : P.info? e = some i) (hz : i.zero = some z)
    (hsize : i.size = size) (hby : i.bytes = bytes) (hzs : z.cells.size = size) (hsz : 0 < size)
    (v : Value) (n : Nat) (xs : List Value) (hown : w.ownsRow 0 e size v n xs)
    (x : Value) (m : Nat) (news : List Value) (hsrc : srcRow w size x m news) (h1 : ∀ u ∈ news, u.oneCell' = true)
    (hb : (n + m) * bytes ≤ 140737488355328) (h63 : n + m ≤ 140737488355328) :
    ∃ v' w', (Builtin.append_ #[t, t] ty #[v, x]).run P w = .ok v' w' ∧ w'.ownsRow 0 e size v' (n + m) (xs ++ news) ∧ w.grownBy w' v.ownBlock ∧ fresh w v v' := by
  have hmax : n + m ≤ maxLen := by unfold maxLen; omega
  rcases hsrc.2 with ⟨rfl, rfl⟩ | ⟨a, c, rfl, hnews⟩
  · have hn : news = [] := List.eq_nil_of_length_eq_zero (by simpa using hsrc.1)
    subst hn
    exact ⟨v, w, run_append_owned_none w 0 t ty e i size ht hi v n xs hown, by simpa using hown, ⟨rfl, rfl, rfl, Nat.le_refl _, fun _ _ _ => rfl⟩, fun _ h => .inl h⟩
  · rcases hown.2 with ⟨rfl, rfl⟩ | ⟨g, cap, cur, rfl, _, hg, hnc, hcm, hcs, htake⟩
    · obtain rfl : xs = [] := List.eq_nil_of_length_eq_zero (by simpa using hown.1)
      obtain ⟨v', w', r1, r2, r3, _⟩ := run_append_own (P := P) w w.heap.size t ty e i z size bytes ht hi hz hsize hby hzs hsz (.slice none 0 0) 0 [] (World.ownsRow_nil _ _ _ _) a m c news hsrc.1 hnews h1 hmax hb (Nat.le_refl _)
      exact ⟨v', w', r1, owns_base r2, r3, fun k e => .inr (r2.lt k e).1⟩
    · by_cases hroom : n + m ≤ cap
      · obtain ⟨v', w', r1, r2, r3, _⟩ := run_append_own (P := P) w 0 t ty e i z size bytes ht hi hz hsize hby hzs hsz _ n xs hown a m c news hsrc.1 hnews h1 hmax hb (Nat.zero_le _)
        have hfit : n * i.size + news.length ≤ cur.size := by rw [hsrc.1, hcs, hsize, ← Nat.add_mul]; exact Nat.mul_le_mul_right _ hroom
        have hr := run_append_room (P := P) w t ty e i ht hi g n cap cur hg a m c news (by rw [hsize]; exact hsrc.1) hnews h1 hroom hfit
        rw [hr] at r1
        cases r1
        exact ⟨_, _, hr, r2, r3, fun k e => .inl e⟩
      · obtain ⟨v', w', r1, r2, r3⟩ := run_append_arg_grows (P := P) w t ty e i z size bytes ht hi hz hsize hby hzs hsz ⟨g, 0, none⟩ n cap xs hown.1 (hown.cells (g := g) rfl) a m c news hsrc.1 hnews (by omega) hmax hb
        exact ⟨v', w', r1, owns_base r2, ⟨r3.os, r3.tape, r3.output, r3.size, fun k hk _ => r3.block k hk (by simp)⟩, fun k e => .inr (r2.lt k e).1⟩

/-- append of a row to a row, in a walk. -/
theorem wp_append_rows {P : Program} {w : World} {o : Oper} {a : Act} {K : Act → World → Prop} {Q : Exit → Act → World → Prop} (s x : Operand) (t : TypeId)
    (ho : o.op = .call { callee := .builtin .append, args := #[s, x], argTypes := #[t, t] })
    (e : TypeId) (i : TypeInfo) (z : Value) (size bytes : Nat) (ht : P.underlying t = some (.slice e)) (hi : P.info? e = some i) (hz : i.zero = some z)
    (hsize : i.size = size) (hby : i.bytes = bytes) (hzs : z.cells.size = size) (hsz : 0 < size)
    (v : Value) (n : Nat) (xs : List Value) (hs : a.eval s = v) (hown : w.ownsRow 0 e size v n xs)
    (xv : Value) (m : Nat) (news : List Value) (hx : a.eval x = xv) (hsrc : srcRow w size xv m news) (h1 : ∀ u ∈ news, u.oneCell' = true)
    (hb : (n + m) * bytes ≤ 140737488355328) (h63 : n + m ≤ 140737488355328)
    (h : ∀ v' w', w'.ownsRow 0 e size v' (n + m) (xs ++ news) → w.grownBy w' v.ownBlock → fresh w v v' → K (a.put o.dst v') w') : o.wp P a w K Q := by
  obtain ⟨v', w', hr, h2, h3, h4⟩ := run_append_rows (P := P) w t o.type e i z size bytes ht hi hz hsize hby hzs hsz v n xs hown xv m news hsrc h1 hb h63
  unfold Oper.wp execOp
  simp only [ho, resolve, invoke, builtin, Sem.run_bind, Sem.run_pure, Result.andThen_ok, List.map_toArray, List.map_cons, List.map_nil, hs, hx, hr]
  exact h v' w' h2 h3 h4

theorem wpList_append_rows {P : Program} {w : World} {ops : Array Oper} {rest : List Oper} {o : Oper} {a : Act} {Q : Exit → Act → World → Prop} (hgd : o.guard = none) (s x : Operand) (t : TypeId)
    (ho : o.op = .call { callee := .builtin .append, args := #[s, x], argTypes := #[t, t] })
    (e : TypeId) (i : TypeInfo) (z : Value) (size bytes : Nat) (ht : P.underlying t = some (.slice e)) (hi : P.info? e = some i) (hz : i.zero = some z)
    (hsize : i.size = size) (hby : i.bytes = bytes) (hzs : z.cells.size = size) (hsz : 0 < size)
    (v : Value) (n : Nat) (xs : List Value) (hs : a.eval s = v) (hown : w.ownsRow 0 e size v n xs)
    (xv : Value) (m : Nat) (news : List Value) (hx : a.eval x = xv) (hsrc : srcRow w size xv m news) (h1 : ∀ u ∈ news, u.oneCell' = true)
    (hb : (n + m) * bytes ≤ 140737488355328) (h63 : n + m ≤ 140737488355328)
    (h : ∀ v' w', w'.ownsRow 0 e size v' (n + m) (xs ++ news) → w.grownBy w' v.ownBlock → fresh w v v' → wpList P ops Q rest (a.put o.dst v') w') :
    wpList P ops Q (o :: rest) a w :=
  wpList_plain hgd fun _ hK => wp_append_rows s x t ho e i z size bytes ht hi hz hsize hby hzs hsz v n xs hs hown xv m news hx hsrc h1 hb h63 fun v' w' a1 a2 a3 => hK _ _ (h v' w' a1 a2 a3)

/-- The same as one step of a region that draws its order. -/
theorem step_append_rows {P : Program} {ops : Array Oper} {o : Oper} {a : Act} {w : World} {K : Act → World → Prop} {Q : Exit → Act → World → Prop} {E : Prop}
    (hg : o.guard = none) (s x : Operand) (t : TypeId) (ho : o.op = Op.call { callee := Callee.builtin Builtin.append, args := #[s, x], argTypes := #[t, t] })
    (e : TypeId) (i : TypeInfo) (z : Value) (size bytes : Nat) (ht : P.underlying t = some (.slice e)) (hi : P.info? e = some i) (hz : i.zero = some z)
    (hsize : i.size = size) (hby : i.bytes = bytes) (hzs : z.cells.size = size) (hsz : 0 < size)
    (v : Value) (n : Nat) (xs : List Value) (hs : a.eval s = v) (hown : w.ownsRow 0 e size v n xs)
    (xv : Value) (m : Nat) (news : List Value) (hx : a.eval x = xv) (hsrc : srcRow w size xv m news) (h1 : ∀ u ∈ news, u.oneCell' = true)
    (hb : (n + m) * bytes ≤ 140737488355328) (h63 : n + m ≤ 140737488355328)
    (h : ∀ v' w', w'.ownsRow 0 e size v' (n + m) (xs ++ news) → w.grownBy w' v.ownBlock → fresh w v v' → K (a.put o.dst v') w') :
    if Region.wanted o (yielded ops a.tmps) = true then Oper.wp P o a w K Q else E := by
  have hw : Region.wanted o (yielded ops a.tmps) = true := by simp [Region.wanted, hg]
  rw [if_pos hw]
  exact wp_append_rows s x t ho e i z size bytes ht hi hz hsize hby hzs hsz v n xs hs hown xv m news hx hsrc h1 hb h63 h

end Go.Proofs.YtmfdhcnnhlchbaaGreat

namespace Go.Proofs.YtmfdhcnnhlchbaaGreat
open Go.RowKit

abbrev tU64 : TypeId := 26
abbrev tPk : TypeId := 28

/-- A packet's numbers. -/
structure Pk where
  seq : Int
  src : Int
  dst : Int
  coin : Int
  amount : Int
  height : Int
  time : Int

def Pk.cells (p : Pk) : List Value := [.int .u64 p.seq, .int .i64 p.src, .int .i64 p.dst, .int .i64 p.coin, .int .u64 p.amount, .int .u64 p.height, .int .u64 p.time]

abbrev Pk.agg (p : Pk) : Value := .agg #[.int .u64 p.seq, .int .i64 p.src, .int .i64 p.dst, .int .i64 p.coin, .int .u64 p.amount, .int .u64 p.height, .int .u64 p.time]

abbrev Pk.arr (p : Pk) : Array Value := #[.int .u64 p.seq, .int .i64 p.src, .int .i64 p.dst, .int .i64 p.coin, .int .u64 p.amount, .int .u64 p.height, .int .u64 p.time]

/-- What a header says. -/
structure Hd where
  height : Int
  time : Int
  isOpen : Bool
  nextRecv : Int
  packets : List Pk
  answers : List (Int × Bool)

/-- A chain, as the document has it. -/
structure Ch where
  hd : Hd
  n : Int
  h0 : Int
  h1 : Int
  h2 : Int
  h3 : Int
  h4 : Int
  h5 : Int
  locked : Int
  about : Int
  nextSend : Int
  heads : List Hd
  known : Nat

/-- Every block that the value leads to bears the label o. -/
def labelled (own : Nat → Nat) (v : Value) (o : Nat) : Prop := ∀ k, v.ownBlock = some k → own k = o

/-- What a step of the owner o does to the memory of all others: nothing. -/
structure Step (own own' : Nat → Nat) (o : Nat) (w w' : World) : Prop where
  os : w'.os = w.os
  tape : w'.tape = w.tape
  output : w'.output = w.output
  size : w.heap.size ≤ w'.heap.size
  label : ∀ k, k < w.heap.size → own' k = own k
  block : ∀ k, k < w.heap.size → own k ≠ o → w'.heap[k]? = w.heap[k]?

theorem Step.refl (own : Nat → Nat) (o : Nat) (w : World) : Step own own o w w := ⟨rfl, rfl, rfl, Nat.le_refl _, fun _ _ => rfl, fun _ _ _ => rfl⟩

theorem Step.trans {own own1 own2 : Nat → Nat} {o : Nat} {w w1 w2 : World} (h : Step own own1 o w w1) (g : Step own1 own2 o w1 w2) : Step own own2 o w w2 :=
  ⟨g.os.trans h.os, g.tape.trans h.tape, g.output.trans h.output, Nat.le_trans h.size g.size,
   fun k hk => (g.label k (Nat.lt_of_lt_of_le hk h.size)).trans (h.label k hk),
   fun k hk hne => (g.block k (Nat.lt_of_lt_of_le hk h.size) (by rw [h.label k hk]; exact hne)).trans (h.block k hk hne)⟩

theorem owns_lt {w : World} {base e size : Nat} {v : Value} {n : Nat} {xs : List Value} (h : w.ownsRow base e size v n xs) {k : Nat} (hk : v.ownBlock = some k) : k < w.heap.size := (h.lt k hk).2

theorem owns_keep {w w' : World} {base e size : Nat} {v : Value} {n : Nat} {xs : List Value} (h : w.ownsRow base e size v n xs) (hk : ∀ k, v.ownBlock = some k → w'.heap[k]? = w.heap[k]?) : w'.ownsRow base e size v n xs := by
  refine ⟨h.1, ?_⟩
  rcases h.2 with hn | ⟨g, cap, cur, rfl, hb, hgg, rest⟩
  · exact .inl hn
  · exact .inr ⟨g, cap, cur, rfl, hb, by rw [hk g rfl]; exact hgg, rest⟩

def Ch.get (S : Ch) (k : Nat) : Int := if k = 0 then S.h0 else if k = 1 then S.h1 else if k = 2 then S.h2 else if k = 3 then S.h3 else if k = 4 then S.h4 else S.h5

def Ch.put (S : Ch) (k : Nat) (v : Int) : Ch :=
  { S with h0 := if k = 0 then v else S.h0, h1 := if k = 1 then v else S.h1, h2 := if k = 2 then v else S.h2, h3 := if k = 3 then v else S.h3, h4 := if k = 4 then v else S.h4, h5 := if k = 5 then v else S.h5 }

/-- Where an account's coins lie. -/
def hasAt (u c : Int) : Nat := u.toNat * 2 + c.toNat

def Ch.spent (S : Ch) (p : Pk) : Ch := S.put (hasAt p.src p.coin) (IntKind.u64.wrap (S.get (hasAt p.src p.coin) - p.amount))

def Ch.moved (S : Ch) (p : Pk) : Ch :=
  { S.spent p with locked := if p.coin = S.n then IntKind.u64.wrap (S.locked + p.amount) else S.locked, about := if p.coin = S.n then S.about else IntKind.u64.wrap (S.about - p.amount) }

def Ch.counted (S : Ch) (p : Pk) : Ch := { S.moved p with nextSend := IntKind.u64.wrap (S.nextSend + 1) }

def Ch.sent (S : Ch) (p : Pk) : Ch := { S.counted p with hd := { S.hd with packets := S.hd.packets ++ [{ p with seq := S.nextSend }] } }

def sendC (S : Ch) (p : Pk) : Ch × Int × Int :=
  if S.hd.isOpen = false then (S, 0, 2) else if p.src < 0 ∨ 2 < p.src then (S, 0, 3) else if p.coin < 0 ∨ 1 < p.coin then (S, 0, 4) else if p.amount = 0 then (S, 0, 5)
  else if S.get (hasAt p.src p.coin) < p.amount then (S, 0, 6) else if p.height = 0 ∧ p.time = 0 then (S, 0, 7) else (S.sent p, S.nextSend, 0)

abbrev stepAgg (k n : Int) (p : Pk) : Value := .agg #[.int .i64 k, .int .u64 n, .int .u64 p.seq, .int .i64 p.src, .int .i64 p.dst, .int .i64 p.coin, .int .u64 p.amount, .int .u64 p.height, .int .u64 p.time]

def closeC (S : Ch) : Ch × Int × Int := if S.hd.isOpen = false then (S, 0, 2) else ({ S with hd := { S.hd with isOpen := false } }, 0, 0)

def confirmC (S : Ch) (K : Hd) : Ch × Int × Int := if S.hd.isOpen = false then (S, 0, 2) else if K.isOpen then (S, 0, 14) else ({ S with hd := { S.hd with isOpen := false } }, 0, 0)

def Ch.later (S : Ch) (n : Int) : Ch := { S with hd := { S.hd with time := IntKind.u64.wrap (S.hd.time + n), height := IntKind.u64.wrap (S.hd.height + 1) } }

def tickC (S : Ch) (n : Int) : Ch × Int × Int :=
  if IntKind.u64.wrap (18446744073709551615 - S.hd.time) < n then (S, 0, 15) else ({ S.later n with heads := S.heads ++ [(S.later n).hd] }, 0, 0)

def updateC (S : Ch) (n : Int) (hl : Nat) : Ch × Int × Int := if (hl : Int) ≤ n ∨ n ≤ S.known then (S, 0, 8) else ({ S with known := n.toNat }, 0, 0)

abbrev headAgg (K : Hd) : Value := .agg #[.int .u64 K.height, .int .u64 K.time, .bool K.isOpen, .int .u64 K.nextRecv, .int .i64 K.packets.length, .int .i64 K.answers.length]

/-- Both chains, and how many steps were taken. -/
structure Mod where
  c0 : Ch
  c1 : Ch
  taken : Int

/-- Blocks whose labels are not in T stay. -/
structure StepS (T : Nat → Prop) (own own' : Nat → Nat) (w w' : World) : Prop where
  os : w'.os = w.os
  tape : w'.tape = w.tape
  output : w'.output = w.output
  size : w.heap.size ≤ w'.heap.size
  label : ∀ k, k < w.heap.size → own' k = own k
  block : ∀ k, k < w.heap.size → ¬ T (own k) → w'.heap[k]? = w.heap[k]?

theorem Step.toS {own own' : Nat → Nat} {o : Nat} {w w' : World} (h : Step own own' o w w') (T : Nat → Prop) (hT : T o) : StepS T own own' w w' :=
  ⟨h.os, h.tape, h.output, h.size, h.label, fun k hk hne => h.block k hk (fun e => hne (by rw [e]; exact hT))⟩

theorem StepS.trans {T : Nat → Prop} {own own1 own2 : Nat → Nat} {w w1 w2 : World} (h : StepS T own own1 w w1) (g : StepS T own1 own2 w1 w2) : StepS T own own2 w w2 :=
  ⟨g.os.trans h.os, g.tape.trans h.tape, g.output.trans h.output, Nat.le_trans h.size g.size,
   fun k hk => (g.label k (Nat.lt_of_lt_of_le hk h.size)).trans (h.label k hk),
   fun k hk hne => (g.block k (Nat.lt_of_lt_of_le hk h.size) (by rw [h.label k hk]; exact hne)).trans (h.block k hk hne)⟩

theorem StepS.wider {T T' : Nat → Prop} {own own' : Nat → Nat} {w w' : World} (h : StepS T own own' w w') (hT : ∀ l, T l → T' l) : StepS T' own own' w w' :=
  ⟨h.os, h.tape, h.output, h.size, h.label, fun k hk hne => h.block k hk (fun e => hne (hT _ e))⟩

theorem grown_stepS {T : Nat → Prop} {own : Nat → Nat} {w w' : World} (g : w.grownBy w' none) : StepS T own own w w' :=
  ⟨g.os, g.tape, g.output, g.size, fun _ _ => rfl, fun k hk _ => g.block k hk (by simp)⟩

def newHd : Hd := { height := 0, time := 0, isOpen := true, nextRecv := 1, packets := [], answers := [] }

def rawCh (n coins : Int) : Ch := { hd := newHd, n := n, h0 := if n = 0 then coins else 0, h1 := if n = 0 then 0 else coins, h2 := if n = 0 then coins else 0, h3 := if n = 0 then 0 else coins, h4 := if n = 0 then coins else 0, h5 := if n = 0 then 0 else coins, locked := 0, about := 0, nextSend := 1, heads := [], known := 0 }

def newCh (n coins : Int) : Ch := { rawCh n coins with heads := [newHd] }

def newMod (coins : Int) : Mod := { c0 := newCh 0 coins, c1 := newCh 1 coins, taken := 0 }

/-- Has a packet fallen due? -/
def dueB (p : Pk) (height time : Int) : Bool := (decide (0 < p.height) && decide (p.height ≤ height)) || (decide (0 < p.time) && decide (p.time ≤ time))

def Ch.credit (S : Ch) (user coin amount : Int) : Ch :=
  { S.put (hasAt user coin) (IntKind.u64.wrap (S.get (hasAt user coin) + amount)) with
    locked := if coin = S.n then IntKind.u64.wrap (S.locked - amount) else S.locked, about := if coin = S.n then S.about else IntKind.u64.wrap (S.about + amount) }

def goodTo (p : Pk) : Bool := decide (0 ≤ p.dst) && decide (p.dst ≤ 2)

def recvC (S : Ch) (n : Int) (K : Hd) : Ch × Int × Int :=
  if S.hd.isOpen = false then (S, 0, 2) else if n ≠ S.hd.nextRecv then (S, 0, 9) else
  match K.packets.find? (fun p => p.seq == n) with
  | none => (S, 0, 10)
  | some p => if dueB p S.hd.height S.hd.time then (S, 0, 11) else
    let S1 : Ch := { S with hd := { S.hd with nextRecv := IntKind.u64.wrap (S.hd.nextRecv + 1) } }
    let S2 : Ch := if goodTo p then S1.credit p.dst p.coin p.amount else S1
    ({ S2 with hd := { S2.hd with answers := S2.hd.answers ++ [(n, goodTo p)] } }, 0, 0)

def Ch.gone (S : Ch) (n : Int) : Ch := { S with hd := { S.hd with packets := S.hd.packets.eraseP (fun p => p.seq == n) } }

def ackC (S : Ch) (n : Int) (K : Hd) : Ch × Int × Int :=
  match S.hd.packets.find? (fun p => p.seq == n) with
  | none => (S, 0, 10)
  | some p => if (S.hd.packets.head?.map (fun q => q.seq == n)) = some false then (S, 0, 9) else
    match K.answers.find? (fun a => a.1 == n) with
    | none => (S, 0, 12)
    | some a => (if a.2 then S.gone n else (S.gone n).credit p.src p.coin p.amount, 0, 0)

def backC (S : Ch) (n : Int) (K : Hd) (closed : Bool) : Ch × Int × Int :=
  match S.hd.packets.find? (fun p => p.seq == n) with
  | none => (S, 0, 10)
  | some p => if closed && K.isOpen then (S, 0, 14) else if (!closed && !dueB p K.height K.time) || decide (n < K.nextRecv) then (S, 0, 13) else
    let S1 := (S.gone n).credit p.src p.coin p.amount
    ({ S1 with hd := { S1.hd with isOpen := false } }, 0, 0)

def doC (S : Ch) (k n : Int) (p : Pk) (K : Hd) (hl : Nat) : Ch × Int × Int :=
  if k = 1 then sendC S p else if k = 2 then tickC S n else if k = 3 then updateC S n hl else if k = 4 then recvC S n K else if k = 5 then ackC S n K else if k = 6 then backC S n K false
  else if k = 7 then backC S n K true else if k = 8 then closeC S else if k = 9 then confirmC S K else (S, 0, 16)

def knownHd (S O : Ch) : Hd := O.heads[S.known]?.getD newHd

/-- A step of the document's model. -/
def doM (m : Mod) (c : Nat) (k n : Int) (p : Pk) : Mod × Int × Int :=
  if c = 0 then
    let r := doC m.c0 k n p (knownHd m.c0 m.c1) m.c1.heads.length
    ({ c0 := r.1, c1 := m.c1, taken := if r.2.2 = 0 then m.taken + 1 else m.taken }, r.2.1, r.2.2)
  else
    let r := doC m.c1 k n p (knownHd m.c1 m.c0) m.c0.heads.length
    ({ c0 := m.c0, c1 := r.1, taken := if r.2.2 = 0 then m.taken + 1 else m.taken }, r.2.1, r.2.2)

/-- A packet that was sent has an account and a coin. -/
def GoodPk (p : Pk) : Prop := (0 ≤ p.src ∧ p.src ≤ 2) ∧ (0 ≤ p.coin ∧ p.coin ≤ 1)

/-- What N steps can have made. -/
structure Lim1 (S O : Ch) (N : Nat) : Prop where
  p : S.hd.packets.length ≤ N
  a : S.hd.answers.length ≤ N
  h : S.heads.length ≤ N + 1
  k : S.known < O.heads.length
  v : ∀ p ∈ S.hd.packets, GoodPk p
  vh : ∀ h ∈ S.heads, (h.packets.length ≤ N ∧ h.answers.length ≤ N) ∧ ∀ p ∈ h.packets, GoodPk p

structure Lim (m : Mod) (N : Nat) : Prop where
  l0 : Lim1 m.c0 m.c1 N
  l1 : Lim1 m.c1 m.c0 N
  t0 : 0 ≤ m.taken
  t1 : m.taken ≤ N

def HeadsOk (l : List Hd) (N : Nat) : Prop := ∀ h ∈ l, (h.packets.length ≤ N ∧ h.answers.length ≤ N) ∧ ∀ p ∈ h.packets, GoodPk p

theorem HeadsOk.mono {l : List Hd} {N M : Nat} (h : HeadsOk l N) (hNM : N ≤ M) : HeadsOk l M := fun x hx => ⟨⟨by have := (h x hx).1.1; omega, by have := (h x hx).1.2; omega⟩, (h x hx).2⟩

theorem Lim1.mono {S O : Ch} {N M : Nat} (h : Lim1 S O N) (hNM : N ≤ M) : Lim1 S O M := by
  obtain ⟨a1, a2, a3, a4, a5, a6⟩ := h
  exact ⟨by omega, by omega, by omega, a4, a5, HeadsOk.mono a6 hNM⟩

theorem Lim.mono {m : Mod} {N M : Nat} (h : Lim m N) (hNM : N ≤ M) : Lim m M := by
  obtain ⟨a, b, c, d⟩ := h
  exact ⟨a.mono hNM, b.mono hNM, c, by omega⟩

theorem lim1_new (n coins : Int) (S : Ch) (hS : S.heads = [newHd]) : Lim1 (newCh n coins) S 1 :=
  ⟨by simp [newCh, rawCh, newHd], by simp [newCh, rawCh, newHd], by simp [newCh], by simp [newCh, rawCh, hS], by simp [newCh, rawCh, newHd], fun h hh => by simp only [newCh, List.mem_singleton] at hh; subst hh; simp [newHd]⟩

theorem lim_new (coins : Int) : Lim (newMod coins) 1 := ⟨lim1_new _ _ _ rfl, lim1_new _ _ _ rfl, by simp [newMod], by simp [newMod]⟩

/-- A step that sends nothing and makes no header. -/
theorem lim_of {S S' O : Ch} {N : Nat} (h : Lim1 S O N) (h1 : ∀ p ∈ S'.hd.packets, p ∈ S.hd.packets) (h2 : S'.hd.packets.length ≤ S.hd.packets.length) (h3 : S'.hd.answers.length ≤ S.hd.answers.length + 1) (h4 : S'.heads = S.heads) (h5 : S'.known < O.heads.length) : Lim1 S' O (N + 1) ∧ S.heads.length ≤ S'.heads.length := by
  obtain ⟨a1, a2, a3, a4, a5, a6⟩ := h
  exact ⟨⟨by omega, by omega, by rw [h4]; omega, h5, fun p hp => a5 p (h1 p hp), by rw [h4]; exact HeadsOk.mono a6 (Nat.le_succ _)⟩, by rw [h4]; exact Nat.le_refl _⟩

theorem lim_same {S O : Ch} {N : Nat} (h : Lim1 S O N) : Lim1 S O (N + 1) ∧ S.heads.length ≤ S.heads.length := ⟨h.mono (Nat.le_succ _), Nat.le_refl _⟩

theorem recv_lim (S : Ch) (n : Int) (K : Hd) : (recvC S n K).1.hd.packets = S.hd.packets ∧ (recvC S n K).1.hd.answers.length ≤ S.hd.answers.length + 1 ∧ (recvC S n K).1.heads = S.heads ∧ (recvC S n K).1.known = S.known := by
  unfold recvC
  split
  · exact ⟨rfl, by simp, rfl, rfl⟩
  split
  · exact ⟨rfl, by simp, rfl, rfl⟩
  split
  · exact ⟨rfl, by simp, rfl, rfl⟩
  split
  · exact ⟨rfl, by simp, rfl, rfl⟩
  dsimp only
  split <;> simp [Ch.credit, Ch.put]

theorem gone_lim (S : Ch) (n : Int) : (∀ p ∈ (S.gone n).hd.packets, p ∈ S.hd.packets) ∧ (S.gone n).hd.packets.length ≤ S.hd.packets.length :=
  ⟨fun _ hp => List.mem_of_mem_eraseP hp, List.length_eraseP_le⟩

theorem ack_lim (S : Ch) (n : Int) (K : Hd) : (∀ p ∈ (ackC S n K).1.hd.packets, p ∈ S.hd.packets) ∧ (ackC S n K).1.hd.packets.length ≤ S.hd.packets.length ∧ (ackC S n K).1.hd.answers.length ≤ S.hd.answers.length + 1 ∧ (ackC S n K).1.heads = S.heads ∧ (ackC S n K).1.known = S.known := by
  unfold ackC
  split
  · exact ⟨fun _ h => h, Nat.le_refl _, by simp, rfl, rfl⟩
  split
  · exact ⟨fun _ h => h, Nat.le_refl _, by simp, rfl, rfl⟩
  split
  · exact ⟨fun _ h => h, Nat.le_refl _, by simp, rfl, rfl⟩
  dsimp only
  split
  · exact ⟨(gone_lim S n).1, (gone_lim S n).2, Nat.le_succ _, rfl, rfl⟩
  · exact ⟨(gone_lim S n).1, (gone_lim S n).2, Nat.le_succ _, rfl, rfl⟩

theorem back_lim (S : Ch) (n : Int) (K : Hd) (b : Bool) : (∀ p ∈ (backC S n K b).1.hd.packets, p ∈ S.hd.packets) ∧ (backC S n K b).1.hd.packets.length ≤ S.hd.packets.length ∧ (backC S n K b).1.hd.answers.length ≤ S.hd.answers.length + 1 ∧ (backC S n K b).1.heads = S.heads ∧ (backC S n K b).1.known = S.known := by
  unfold backC
  split
  · exact ⟨fun _ h => h, Nat.le_refl _, by simp, rfl, rfl⟩
  split
  · exact ⟨fun _ h => h, Nat.le_refl _, by simp, rfl, rfl⟩
  split
  · exact ⟨fun _ h => h, Nat.le_refl _, by simp, rfl, rfl⟩
  exact ⟨(gone_lim S n).1, (gone_lim S n).2, Nat.le_succ _, rfl, rfl⟩

theorem send_lim {S O : Ch} {N : Nat} (h : Lim1 S O N) (p : Pk) : Lim1 (sendC S p).1 O (N + 1) ∧ S.heads.length ≤ (sendC S p).1.heads.length := by
  unfold sendC
  split
  · exact lim_same h
  split
  · exact lim_same h
  split
  · exact lim_same h
  split
  · exact lim_same h
  split
  · exact lim_same h
  split
  · exact lim_same h
  obtain ⟨h1, h2, h3, h4, h5, h6⟩ := h
  refine ⟨⟨by simp [Ch.sent]; omega, by simp [Ch.sent]; omega, by simp [Ch.sent, Ch.counted, Ch.moved, Ch.spent, Ch.put]; omega, h4, fun r hr => ?_, HeadsOk.mono h6 (Nat.le_succ _)⟩, Nat.le_refl _⟩
  simp only [Ch.sent, List.mem_append, List.mem_singleton] at hr
  rcases hr with hr | rfl
  · exact h5 r hr
  · refine ⟨⟨?_, ?_⟩, ?_, ?_⟩ <;> simp only <;> omega

theorem tick_lim {S O : Ch} {N : Nat} (h : Lim1 S O N) (n : Int) : Lim1 (tickC S n).1 O (N + 1) ∧ S.heads.length ≤ (tickC S n).1.heads.length := by
  unfold tickC
  split
  · exact lim_same h
  obtain ⟨h1, h2, h3, h4, h5, h6⟩ := h
  refine ⟨⟨by simp [Ch.later]; omega, by simp [Ch.later]; omega, by simp; omega, h4, h5, fun r hr => ?_⟩, by simp⟩
  simp only [List.mem_append, List.mem_singleton] at hr
  rcases hr with hr | rfl
  · exact HeadsOk.mono h6 (Nat.le_succ _) r hr
  · exact ⟨⟨by simp only [Ch.later]; omega, by simp only [Ch.later]; omega⟩, h5⟩

/-- What a chain's step makes of the lengths. -/
theorem doC_lim {S O : Ch} {N : Nat} (h : Lim1 S O N) (k n : Int) (p : Pk) (K : Hd) : Lim1 (doC S k n p K O.heads.length).1 O (N + 1) ∧ S.heads.length ≤ (doC S k n p K O.heads.length).1.heads.length := by
  unfold doC
  split
  · exact send_lim h p
  split
  · exact tick_lim h n
  split
  · unfold updateC
    split
    · exact lim_same h
    · exact lim_of h (fun _ h => h) (Nat.le_refl _) (Nat.le_succ _) rfl (by simp only; omega)
  split
  · obtain ⟨e1, e2, e3, e4⟩ := recv_lim S n K
    exact lim_of h (by rw [e1]; exact fun _ h => h) (by rw [e1]; exact Nat.le_refl _) e2 e3 (by rw [e4]; exact h.k)
  split
  · obtain ⟨e1, e2, e3, e4, e5⟩ := ack_lim S n K
    exact lim_of h e1 e2 e3 e4 (by rw [e5]; exact h.k)
  split
  · obtain ⟨e1, e2, e3, e4, e5⟩ := back_lim S n K false
    exact lim_of h e1 e2 e3 e4 (by rw [e5]; exact h.k)
  split
  · obtain ⟨e1, e2, e3, e4, e5⟩ := back_lim S n K true
    exact lim_of h e1 e2 e3 e4 (by rw [e5]; exact h.k)
  split
  · unfold closeC
    split
    · exact lim_same h
    · exact lim_of h (fun _ h => h) (Nat.le_refl _) (Nat.le_succ _) rfl h.k
  split
  · unfold confirmC
    split
    · exact lim_same h
    split
    · exact lim_same h
    · exact lim_of h (fun _ h => h) (Nat.le_refl _) (Nat.le_succ _) rfl h.k
  · exact lim_same h

theorem lim_far {S O O' : Ch} {N : Nat} (h : Lim1 S O N) (hO : O.heads.length ≤ O'.heads.length) : Lim1 S O' (N + 1) := by
  obtain ⟨a1, a2, a3, a4, a5, a6⟩ := h
  exact ⟨by omega, by omega, by omega, by omega, a5, HeadsOk.mono a6 (Nat.le_succ _)⟩

theorem doM_lim {m : Mod} {N : Nat} (h : Lim m N) (c : Nat) (k n : Int) (p : Pk) : Lim (doM m c k n p).1 (N + 1) := by
  obtain ⟨h0, h1, t0, t1⟩ := h
  unfold doM
  split
  · obtain ⟨e1, e2⟩ := doC_lim h0 k n p (knownHd m.c0 m.c1)
    refine ⟨e1, lim_far h1 e2, ?_, ?_⟩
    · simp only; split <;> omega
    · simp only; split <;> omega
  · obtain ⟨e1, e2⟩ := doC_lim h1 k n p (knownHd m.c1 m.c0)
    refine ⟨lim_far h0 e2, e1, ?_, ?_⟩
    · simp only; split <;> omega
    · simp only; split <;> omega

abbrev lookAgg (S : Ch) (al : Option Addr) (cl : Nat) : Value := .agg #[.int .u64 S.hd.height, .int .u64 S.hd.time, .int .u64 S.known, .bool S.hd.isOpen, .int .u64 S.nextSend, .int .u64 S.hd.nextRecv, .slice al S.hd.packets.length cl, .int .u64 S.locked, .int .u64 S.about]

abbrev lookZero : Value := .agg #[.int .u64 0, .int .u64 0, .int .u64 0, .bool false, .int .u64 0, .int .u64 0, .slice none 0 0, .int .u64 0, .int .u64 0]

abbrev headZero : Value := .agg #[.int .u64 0, .int .u64 0, .bool false, .int .u64 0, .int .i64 0, .int .i64 0]

def chainOf (m : Mod) (c : Int) : Ch := if c = 0 then m.c0 else m.c1

def balM (m : Mod) (c user coin : Int) : Int :=
  if (c = 0 ∨ c = 1) ∧ (0 ≤ user ∧ user ≤ 2) ∧ (0 ≤ coin ∧ coin ≤ 1) then (chainOf m c).get (hasAt user coin) else 0

def headM (m : Mod) (c n : Int) : Option Hd := if c = 0 ∨ c = 1 then (chainOf m c).heads[n.toNat]? else none

/-- In short. -/
def short (K : Hd) : Int × Int × Bool × Int × Nat × Nat := (K.height, K.time, K.isOpen, K.nextRecv, K.packets.length, K.answers.length)

def sameM (m : Mod) (c n d n2 : Int) : Bool := match headM m c n, headM m d n2 with
  | some x, some y => decide (short x = short y)
  | _, _ => false

theorem Pk.one (p : Pk) : ∀ u ∈ p.cells, u.oneCell' = true := by
  intro u hu
  simp only [Pk.cells, List.mem_cons, List.not_mem_nil, or_false] at hu
  rcases hu with rfl | rfl | rfl | rfl | rfl | rfl | rfl <;> rfl

theorem pks_one (l : List Pk) : ∀ u ∈ l.flatMap Pk.cells, u.oneCell' = true := by
  intro u hu
  obtain ⟨p, _, h⟩ := List.mem_flatMap.1 hu
  exact p.one u h

theorem owns_form {w : World} {base e size : Nat} {v : Value} {n : Nat} {xs : List Value} (h : w.ownsRow base e size v n xs) : ∃ a c, v = .slice a n c := by
  rcases h.2 with ⟨rfl, rfl⟩ | ⟨g, cap, cur, rfl, _⟩
  · exact ⟨_, _, rfl⟩
  · exact ⟨_, _, rfl⟩

theorem setCell_other (w : World) (a : Addr) (v : Value) {k : Nat} (h : k ≠ a.block) : (w.setCell a v).heap[k]? = w.heap[k]? := by
  simp only [World.setCell, Array.getElem?_modify]
  rw [if_neg (fun e => h e.symm)]

theorem setCell_same {w : World} {b : Nat} {c : Array Value} {t : TypeId} {f : Nat × Nat} (h : w.heap[b]? = some (.cells c t f)) (o : Nat) (v : Value) : (w.setCell ⟨b, o, none⟩ v).heap[b]? = some (.cells (c.setIfInBounds o v) t f) := by
  simp [World.setCell, Array.getElem?_modify, h]

theorem setCell_size (w : World) (a : Addr) (v : Value) : (w.setCell a v).heap.size = w.heap.size := by simp [World.setCell]

theorem size_alloc' (w : World) (x : Obj) : (w.alloc x).heap.size = w.heap.size + 1 := by simp

theorem blk_lt {w : World} {b : Nat} {x : Obj} (h : w.heap[b]? = some x) : b < w.heap.size := (Array.getElem?_eq_some_iff.1 h).1

theorem infoPk : (Tryz.prog.info? 28).map (fun i => (i.zero, i.size, i.bytes)) = some (some (.agg #[.int .u64 0, .int .i64 0, .int .i64 0, .int .i64 0, .int .u64 0, .int .u64 0, .int .u64 0]), 7, 56) := by kernel_rfl

theorem blk6 {w : World} {b t : Nat} {x0 x1 x2 x3 x4 x5 : Value} (h : w.heap[b]? = some (.cells #[x0, x1, x2, x3, x4, x5] t (0, 0))) :
    w.cell? ⟨b, 0, none⟩ = some x0 ∧ w.cell? ⟨b, 1, none⟩ = some x1 ∧ w.cell? ⟨b, 2, none⟩ = some x2 ∧ w.cell? ⟨b, 3, none⟩ = some x3 ∧ w.cell? ⟨b, 4, none⟩ = some x4 ∧ w.cell? ⟨b, 5, none⟩ = some x5 ∧ (∀ k, w.frozen? ⟨b, k, none⟩ = false) := by
  refine ⟨?_, ?_, ?_, ?_, ?_, ?_, ?_⟩
  all_goals first
    | (intro k; simp [World.frozen?, h])
    | simp [World.cell?, h]

theorem grown_refl (w : World) (r : Option Nat) : w.grownBy w r := ⟨rfl, rfl, rfl, Nat.le_refl _, fun _ _ _ => rfl⟩

theorem grown_trans {w w1 w2 : World} {r r' : Option Nat} (h : w.grownBy w1 r) (g : w1.grownBy w2 r') (hr : ∀ k, r' = some k → r = some k ∨ w.heap.size ≤ k) : w.grownBy w2 r :=
  ⟨g.os.trans h.os, g.tape.trans h.tape, g.output.trans h.output, Nat.le_trans h.size g.size, fun k hk hne =>
    (g.block k (Nat.lt_of_lt_of_le hk h.size) (fun e => (hr k e.symm).elim (fun e1 => hne e1.symm) (fun e1 => by omega))).trans (h.block k hk hne)⟩

theorem drewN_heap (w : World) (n : Nat) : (w.drewN n).heap = w.heap := by
  induction n generalizing w with
  | zero => rfl
  | succ n ih => exact ih w.drew

theorem drewN_rest (w : World) (n : Nat) : (w.drewN n).os = w.os ∧ (w.drewN n).tape = w.tape ∧ (w.drewN n).output = w.output := by
  induction n generalizing w with
  | zero => exact ⟨rfl, rfl, rfl⟩
  | succ n ih => exact ih w.drew

theorem grown_drewN {w w1 : World} {r : Option Nat} (h : w.grownBy w1 r) (n : Nat) : w.grownBy (w1.drewN n) r := by
  obtain ⟨e1, e2, e3⟩ := drewN_rest w1 n
  exact ⟨e1.trans h.os, e2.trans h.tape, e3.trans h.output, by rw [drewN_heap]; exact h.size, fun k hk hne => by rw [drewN_heap]; exact h.block k hk hne⟩

theorem grown_drew {w w1 : World} {r : Option Nat} (h : w.grownBy w1 r) : w.grownBy w1.drew r := ⟨h.os, h.tape, h.output, h.size, h.block⟩

theorem grown_alloc {w w1 : World} {r : Option Nat} (h : w.grownBy w1 r) (x : Obj) : w.grownBy (w1.alloc x) r :=
  grown_trans h (World.grownBy_alloc w1 x none) (fun k e => by cases e)

theorem grown_set {w w1 : World} {r : Option Nat} (h : w.grownBy w1 r) (a : Addr) (v : Value) (ha : r = some a.block ∨ w.heap.size ≤ a.block) : w.grownBy (w1.setCell a v) r := by
  refine ⟨h.os, h.tape, h.output, by rw [setCell_size]; exact h.size, fun k hk hne => ?_⟩
  rw [setCell_other _ _ _ (fun e => ha.elim (fun e1 => hne (by rw [e, e1])) (fun e1 => by omega))]
  exact h.block k hk hne

theorem grown_none {w w1 : World} (h : w.grownBy w1 none) (r : Option Nat) : w.grownBy w1 r := ⟨h.os, h.tape, h.output, h.size, fun k hk _ => h.block k hk (by simp)⟩

theorem owns_ne {w : World} {b t e size n base : Nat} {c : Array Value} {f : Nat × Nat} {v : Value} {xs : List Value} (hb : w.heap[b]? = some (.cells c t f)) (h : w.ownsRow base e size v n xs) (hne : t ≠ e) : some b ≠ v.ownBlock := by
  intro e1
  rcases h.2 with ⟨rfl, _⟩ | ⟨g, cap, cur, rfl, _, hg, _⟩
  · simp [Value.ownBlock] at e1
  · simp [Value.ownBlock] at e1
    subst e1
    rw [hb] at hg
    simp at hg
    exact hne hg.2.1

theorem row_apart {w : World} {e e' size size' n n' : Nat} {v v' : Value} {xs xs' : List Value} (h : w.ownsRow 0 e size v n xs) (h' : w.ownsRow 0 e' size' v' n' xs') (hne : e ≠ e') : ∀ k, v.ownBlock = some k → some k ≠ v'.ownBlock := by
  intro k e1
  rcases h.2 with ⟨rfl, _⟩ | ⟨g, cap, cur, rfl, _, hg, _⟩
  · simp [Value.ownBlock] at e1
  · simp [Value.ownBlock] at e1
    subst e1
    exact owns_ne hg h' hne

theorem blk7 {w : World} {b t : Nat} {x0 x1 x2 x3 x4 x5 x6 : Value} (h : w.heap[b]? = some (.cells #[x0, x1, x2, x3, x4, x5, x6] t (0, 0))) :
    w.cell? ⟨b, 0, none⟩ = some x0 ∧ w.cell? ⟨b, 1, none⟩ = some x1 ∧ w.cell? ⟨b, 2, none⟩ = some x2 ∧ w.cell? ⟨b, 3, none⟩ = some x3 ∧ w.cell? ⟨b, 4, none⟩ = some x4 ∧ w.cell? ⟨b, 5, none⟩ = some x5 ∧ w.cell? ⟨b, 6, none⟩ = some x6 ∧ (∀ k, w.frozen? ⟨b, k, none⟩ = false) := by
  refine ⟨?_, ?_, ?_, ?_, ?_, ?_, ?_, ?_⟩
  all_goals first
    | (intro k; simp [World.frozen?, h])
    | simp [World.cell?, h]

theorem infoU64 : (Tryz.prog.info? 26).map (fun i => (i.zero, i.size, i.bytes)) = some (some (.int .u64 0), 1, 8) := by kernel_rfl

theorem wrapU_small {x : Int} (h0 : 0 ≤ x) (h1 : x ≤ 1048576) : IntKind.u64.wrap x = x := by
  simp [IntKind.wrap, IntKind.bits, IntKind.signed]
  omega

theorem set_stepS {T : Nat → Prop} {own : Nat → Nat} {w : World} {a : Addr} {v : Value} (h : T (own a.block)) : StepS T own own w (w.setCell a v) :=
  ⟨rfl, rfl, rfl, by rw [setCell_size]; exact Nat.le_refl _, fun _ _ => rfl, fun k hk hne => setCell_other _ _ _ (fun e => hne (by rw [e]; exact h))⟩

/-- Labels of what is not there yet are free. -/
def relab (own : Nat → Nat) (w : World) : Nat → Nat := fun k => if k < w.heap.size then own k else 0

theorem relab_old {own : Nat → Nat} {w : World} {k : Nat} (h : k < w.heap.size) : relab own w k = own k := by simp [relab, h]

theorem relab_new {own : Nat → Nat} {w : World} {k : Nat} (h : w.heap.size ≤ k) : relab own w k = 0 := by simp [relab]; omega

theorem relab_step (T : Nat → Prop) (own : Nat → Nat) (w : World) : StepS T own (relab own w) w w :=
  ⟨rfl, rfl, rfl, Nat.le_refl _, fun _ hk => relab_old hk, fun _ _ _ => rfl⟩

theorem stepS_of_none {own own' : Nat → Nat} {T : Nat → Prop} {w w' : World} (g : w.grownBy w' none) (hl : ∀ k, k < w.heap.size → own' k = own k) : StepS T own own' w w' :=
  ⟨g.os, g.tape, g.output, g.size, hl, fun k hk _ => g.block k hk (by simp)⟩

end Go.Proofs.YtmfdhcnnhlchbaaGreat
