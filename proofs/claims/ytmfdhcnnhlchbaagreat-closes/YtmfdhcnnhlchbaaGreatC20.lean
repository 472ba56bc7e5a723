import Derived.Test.YtmfdhcnnhlchbaaGreatC01
import Derived.Maps.OwnSet
import Derived.Maps.RangeWalk
import Derived.Maps.OwnOps
import Derived.DeepKeys4
import Derived.WideKeyEntry
import Derived.Sort.AssemblyPlain
import Derived.WalkKit
import Derived.BigGuard
import Derived.BigCall
import Derived.CellFam
import Derived.Deep.Draws
import Derived.Deep.QuietTactic
import Derived.BigQuiet
namespace Go.Proofs.YtmfdhcnnhlchbaaGreat
open Go.RowKit Go.Maps

/-- Every value, as it is. -/
def heldR (v : Value) : Option (DataW Value × List MemPlace) := some (.held v, [])

theorem heldR_inv {v : Value} {d : DataW Value} {ps : List MemPlace} (h : heldR v = some (d, ps)) : d = .held v := by simp [heldR] at h; exact h.1.symm

/-- What f says of each key, the datum says. -/
def Says {α : Type} (P : Program) (kt : TypeId) (enc : α → Value) (D : DataW Value) (f : α → Option Value) : Prop :=
  ∀ key kl, keyOf P kt (enc key) = some kl → Maps.has D kl = (f key).isSome ∧ ∀ v, f key = some v → ∀ z, D.atKey kl z = .held v

/-- Block b is a map of n entries that has just what f says. -/
def MapIs {α : Type} (P : Program) (kt : TypeId) (enc : α → Value) (w : World) (b : Nat) (f : α → Option Value) (n : Nat) : Prop :=
  ∃ D : DataW Value, w.ownsMap P kt heldR b n D ∧ Maps.size D = n ∧ Says P kt enc D f

def putF {α : Type} [DecidableEq α] (f : α → Option Value) (key : α) (val : Value) : α → Option Value := fun k => if k = key then some val else f k
def delF {α : Type} [DecidableEq α] (f : α → Option Value) (key : α) : α → Option Value := fun k => if k = key then none else f k
def putN {α : Type} (f : α → Option Value) (key : α) (n : Nat) : Nat := if (f key).isSome then n else n + 1
def delN {α : Type} (f : α → Option Value) (key : α) (n : Nat) : Nat := if (f key).isSome then n - 1 else n

variable {α : Type} {enc : α → Value} {P : Program} {kt : TypeId} {w w' : World} {b n : Nat} {f : α → Option Value}

theorem MapIs.made (P : Program) (kt : TypeId) (enc : α → Value) (w : World) : MapIs P kt enc (w.alloc (.map #[] 0)) w.heap.size (fun _ => none) 0 :=
  ⟨.map [], World.ownsMap_made w P kt heldR, rfl, fun key kl _ => ⟨by simp [Maps.has], fun v h => by cases h⟩⟩

theorem MapIs.lt (h : MapIs P kt enc w b f n) : b < w.heap.size := by obtain ⟨D, h1, _⟩ := h; exact h1.lt

theorem MapIs.keep (h : MapIs P kt enc w b f n) (e : w'.heap[b]? = w.heap[b]?) : MapIs P kt enc w' b f n := by
  obtain ⟨D, ⟨es, clock, hb, F, hs, hD⟩, h2, h3⟩ := h
  exact ⟨D, ⟨es, clock, e.trans hb, F, hs, hD⟩, h2, h3⟩

theorem MapIs.isMap (h : MapIs P kt enc w b f n) : ∃ es clock, w.heap[b]? = some (.map es clock) := by
  obtain ⟨D, ⟨es, clock, hb, _⟩, _⟩ := h
  exact ⟨es, clock, hb⟩

theorem Says.cong {D : DataW Value} {g : α → Option Value} (h : Says P kt enc D f) (e : ∀ key kl, keyOf P kt (enc key) = some kl → g key = f key) : Says P kt enc D g :=
  fun key kl hk => by rw [e key kl hk]; exact h key kl hk

theorem MapIs.cong {g : α → Option Value} (h : MapIs P kt enc w b f n) (e : ∀ key kl, keyOf P kt (enc key) = some kl → g key = f key) : MapIs P kt enc w b g n := by
  obtain ⟨D, h1, h2, h3⟩ := h
  exact ⟨D, h1, h2, h3.cong e⟩

theorem MapIs.congN {m : Nat} (h : MapIs P kt enc w b f n) (e : n = m) : MapIs P kt enc w b f m := e ▸ h

theorem Says.put [DecidableEq α] (hi : ∀ x y, enc x = enc y → x = y) (K : Keyed P kt) {D : DataW Value} (hD : IsMap D) (h : Says P kt enc D f) {key : α} {val : Value} {kl : Lit} (hkey : keyOf P kt (enc key) = some kl) : Says P kt enc (D.put kl (.held val)) (putF f key val) := by
  intro k2 l2 h2
  unfold putF
  by_cases e : k2 = key
  · subst e
    rw [h2] at hkey
    cases hkey
    rw [if_pos rfl]
    exact ⟨by rw [has_put_same hD (K.key h2)]; rfl, fun v hv z => by cases hv; exact atKey_put_same hD (K.key h2) _ _⟩
  · have hne : l2 ≠ kl := fun e2 => e (hi _ _ (K.inj h2 (by rw [e2]; exact hkey)))
    rw [if_neg e]
    obtain ⟨h3, h4⟩ := h k2 l2 h2
    exact ⟨by rw [has_put_other hne, h3], fun v hv z => by rw [atKey_put_other hne]; exact h4 v hv z⟩

theorem Says.del [DecidableEq α] (hi : ∀ x y, enc x = enc y → x = y) (K : Keyed P kt) {D : DataW Value} (h : Says P kt enc D f) {key : α} {kl : Lit} (hkey : keyOf P kt (enc key) = some kl) : Says P kt enc (D.del kl) (delF f key) := by
  intro k2 l2 h2
  unfold delF
  by_cases e : k2 = key
  · subst e
    rw [h2] at hkey
    cases hkey
    rw [if_pos rfl]
    exact ⟨by rw [has_del_same]; rfl, fun v hv z => by cases hv⟩
  · have hne : l2 ≠ kl := fun e2 => e (hi _ _ (K.inj h2 (by rw [e2]; exact hkey)))
    rw [if_neg e]
    obtain ⟨h3, h4⟩ := h k2 l2 h2
    exact ⟨by rw [has_del_other hne, h3], fun v hv z => by rw [atKey_del_other hne]; exact h4 v hv z⟩

theorem held_of {D : DataW Value} (h : Says P kt enc D f) {key : α} {kl : Lit} (hkey : keyOf P kt (enc key) = some kl) (z v : Value) (hv : heldR v = some (D.atKey kl (.held z), [])) : v = (f key).getD z := by
  have e := heldR_inv hv
  obtain ⟨h1, h2⟩ := h key kl hkey
  cases hf : f key with
  | none =>
    rw [hf] at h1
    rw [atKey_of_not_has (by simpa using h1)] at e
    cases e
    rfl
  | some u =>
    rw [h2 u hf] at e
    cases e
    rfl

theorem MapIs.look {t e : TypeId} (h : MapIs P kt enc w b f n) (K : Keyed P kt) (ht : P.underlying t = some (.map kt e)) {z : Value} (hz : (zeroValue e).run P w = .ok z w) {key : α} {kl : Lit} (hkey : keyOf P kt (enc key) = some kl) :
    (Instr.lookup t (.map (some b)) (enc key) false).run P w = .ok ((f key).getD z) w := by
  obtain ⟨D, h1, h2, h3⟩ := h
  obtain ⟨v, ps, hrun, hv⟩ := h1.lookup K ht hz (zd := .held z) (zp := []) rfl hkey
  rw [hrun, held_of h3 hkey z v (by simp [heldR] at hv ⊢; exact hv.1)]

theorem MapIs.lookOk {t e : TypeId} (h : MapIs P kt enc w b f n) (K : Keyed P kt) (ht : P.underlying t = some (.map kt e)) {z : Value} (hz : (zeroValue e).run P w = .ok z w) {key : α} {kl : Lit} (hkey : keyOf P kt (enc key) = some kl) :
    (Instr.lookup t (.map (some b)) (enc key) true).run P w = .ok (.tuple #[(f key).getD z, .bool (f key).isSome]) w := by
  obtain ⟨D, h1, h2, h3⟩ := h
  obtain ⟨v, ps, hrun, hv⟩ := h1.look_ok K ht hz (zd := .held z) (zp := []) rfl hkey
  rw [hrun, held_of h3 hkey z v (by simp [heldR] at hv ⊢; exact hv.1), (h3 key kl hkey).1]

theorem size_eq_put {D : DataW Value} (hT : Tidy D) (h : Says P kt enc D f) {key : α} {kl : Lit} (hkey : keyOf P kt (enc key) = some kl) (d : DataW Value) : Maps.size (D.put kl d) = putN f key (Maps.size D) := by
  rw [size_put hT, (h key kl hkey).1]
  rfl

theorem size_eq_del {D : DataW Value} (hT : Tidy D) (h : Says P kt enc D f) {key : α} {kl : Lit} (hkey : keyOf P kt (enc key) = some kl) : Maps.size (D.del kl) = delN f key (Maps.size D) := by
  have := size_del (k := kl) hT
  rw [(h key kl hkey).1] at this
  unfold delN
  split at this <;> simp_all <;> omega

theorem MapIs.tight (h : ∃ D : DataW Value, ∃ m, w.ownsMap P kt heldR b m D ∧ Maps.size D = n ∧ Says P kt enc D f) : MapIs P kt enc w b f n := by
  obtain ⟨D, m, ⟨es, clock, hb, F, hs, hD⟩, h2, h3⟩ := h
  refine ⟨D, ⟨es, clock, hb, F, ?_, hD⟩, h2, h3⟩
  rw [← h2, hD]
  simp [Maps.size, length_sorted]

theorem MapIs.store [DecidableEq α] (hi : ∀ x y, enc x = enc y → x = y) {t e : TypeId} (h : MapIs P kt enc w b f n) (K : Keyed P kt) (ht : P.underlying t = some (.map kt e)) (hn : n < maxLen) {key : α} {kl : Lit} (hkey : keyOf P kt (enc key) = some kl) (val : Value) :
    ∃ w', (Instr.mapUpdate t (.map (some b)) (enc key) val).run P w = .ok () w' ∧ MapIs P kt enc w' b (putF f key val) (putN f key n) ∧ w.mapTurned w' b := by
  obtain ⟨D, h1, h2, h3⟩ := h
  obtain ⟨w', hrun, r1, r2⟩ := h1.store K ht hn hkey (val := val) (d := .held val) (ps := []) rfl
  exact ⟨w', hrun, MapIs.tight ⟨_, _, r1, by rw [size_eq_put (h1.tidy K) h3 hkey, h2], h3.put hi K h1.isMap hkey⟩, r2⟩

theorem MapIs.drop [DecidableEq α] (hi : ∀ x y, enc x = enc y → x = y) {t e : TypeId} (h : MapIs P kt enc w b f n) (K : Keyed P kt) (ht : P.underlying t = some (.map kt e)) {key : α} {kl : Lit} (hkey : keyOf P kt (enc key) = some kl) (ty : TypeId) :
    ∃ w', (Builtin.delete_ #[t, kt] ty #[.map (some b), enc key]).run P w = .ok (.tuple #[]) w' ∧ MapIs P kt enc w' b (delF f key) (delN f key n) ∧ w.mapTurned w' b := by
  obtain ⟨D, h1, h2, h3⟩ := h
  obtain ⟨w', hrun, r1, r2⟩ := h1.drop K ht hkey ty
  exact ⟨w', hrun, MapIs.tight ⟨_, _, r1, by rw [size_eq_del (h1.tidy K) h3 hkey, h2], h3.del hi K hkey⟩, r2⟩

theorem MapIs.len {t e : TypeId} (h : MapIs P kt enc w b f n) (ht : P.underlying t = some (.map kt e)) (ty : TypeId) : (Builtin.len_ #[t] ty #[.map (some b)]).run P w = .ok (.int .i64 n) w := by
  obtain ⟨D, h1, h2, h3⟩ := h
  rw [h1.len ht ty, h2]

section
variable {ops : Array Oper} {rest : List Oper} {o : Oper} {a : Act} {Q : Exit → Act → World → Prop}

theorem wpList_map_look (hg : o.guard = none) (m x : Operand) (t : TypeId) (hop : o.op = Op.lookup t m x false) (e : TypeId) (K : Keyed P kt) (ht : P.underlying t = some (.map kt e)) {z : Value} (hz : ∀ w, (zeroValue e).run P w = .ok z w)
    (hm : a.eval m = .map (some b)) (h : MapIs P kt enc w b f n) (key : α) (kl : Lit) (hx : a.eval x = enc key) (hkey : keyOf P kt (enc key) = some kl) (v : Value) (hv : (f key).getD z = v)
    (hK : wpList P ops Q rest (a.put o.dst v) w) : wpList P ops Q (o :: rest) a w := by
  refine wpList_plain hg fun K' hK' => ?_
  unfold Oper.wp
  simp [execOp, hop, hm, hx, h.look K ht (hz w) hkey, Result.andThen, hv]
  exact hK' _ _ hK

theorem wpList_map_lookOk (hg : o.guard = none) (m x : Operand) (t : TypeId) (hop : o.op = Op.lookup t m x true) (e : TypeId) (K : Keyed P kt) (ht : P.underlying t = some (.map kt e)) {z : Value} (hz : ∀ w, (zeroValue e).run P w = .ok z w)
    (hm : a.eval m = .map (some b)) (h : MapIs P kt enc w b f n) (key : α) (kl : Lit) (hx : a.eval x = enc key) (hkey : keyOf P kt (enc key) = some kl) (v : Value) (ok : Bool) (hv : (f key).getD z = v) (hok : (f key).isSome = ok)
    (hK : wpList P ops Q rest (a.put o.dst (.tuple #[v, .bool ok])) w) : wpList P ops Q (o :: rest) a w := by
  refine wpList_plain hg fun K' hK' => ?_
  unfold Oper.wp
  simp [execOp, hop, hm, hx, h.lookOk K ht (hz w) hkey, Result.andThen, hv, hok]
  exact hK' _ _ hK

theorem wpList_map_store [DecidableEq α] (hi : ∀ x y, enc x = enc y → x = y) (hg : o.guard = none) (m x v : Operand) (t : TypeId) (hop : o.op = Op.mapUpdate t m x v) (e : TypeId) (K : Keyed P kt) (ht : P.underlying t = some (.map kt e))
    (hm : a.eval m = .map (some b)) (h : MapIs P kt enc w b f n) (hn : n < maxLen) (key : α) (val : Value) (kl : Lit) (hx : a.eval x = enc key) (hv : a.eval v = val) (hkey : keyOf P kt (enc key) = some kl)
    (hK : ∀ w', MapIs P kt enc w' b (putF f key val) (putN f key n) → w.mapTurned w' b → wpList P ops Q rest (a.put o.dst undef) w') : wpList P ops Q (o :: rest) a w := by
  refine wpList_plain hg fun K' hK' => ?_
  obtain ⟨w', hrun, r1, r2⟩ := h.store hi K ht hn hkey val
  unfold Oper.wp
  simp [execOp, hop, hm, hx, hv, hrun, Result.andThen]
  exact hK' _ _ (hK w' r1 r2)

theorem wpList_map_drop [DecidableEq α] (hi : ∀ x y, enc x = enc y → x = y) (hg : o.guard = none) (m x : Operand) (t : TypeId) (hop : o.op = Op.call { callee := Callee.builtin Builtin.delete, args := #[m, x], argTypes := #[t, kt] }) (e : TypeId) (K : Keyed P kt) (ht : P.underlying t = some (.map kt e))
    (hm : a.eval m = .map (some b)) (h : MapIs P kt enc w b f n) (key : α) (kl : Lit) (hx : a.eval x = enc key) (hkey : keyOf P kt (enc key) = some kl)
    (hK : ∀ w', MapIs P kt enc w' b (delF f key) (delN f key n) → w.mapTurned w' b → wpList P ops Q rest (a.put o.dst (.tuple #[])) w') : wpList P ops Q (o :: rest) a w := by
  refine wpList_plain hg fun K' hK' => ?_
  obtain ⟨w', hrun, r1, r2⟩ := h.drop hi K ht hkey o.type
  unfold Oper.wp
  simp [execOp, hop, resolve, invoke, builtin, hm, hx, hrun, Result.andThen]
  exact hK' _ _ (hK w' r1 r2)

theorem wpList_map_len (hg : o.guard = none) (m : Operand) (t : TypeId) (hop : o.op = Op.call { callee := Callee.builtin Builtin.len, args := #[m], argTypes := #[t] }) (kt e : TypeId) (ht : P.underlying t = some (.map kt e))
    (hm : a.eval m = .map (some b)) (h : MapIs P kt enc w b f n) (hK : wpList P ops Q rest (a.put o.dst (.int .i64 n)) w) : wpList P ops Q (o :: rest) a w := by
  refine wpList_plain hg fun K' hK' => ?_
  unfold Oper.wp
  simp [execOp, hop, resolve, invoke, builtin, hm, h.len ht o.type, Result.andThen]
  exact hK' _ _ hK

end

end Go.Proofs.YtmfdhcnnhlchbaaGreat

namespace Go.Proofs.YtmfdhcnnhlchbaaGreat
open Go.RowKit Go.Maps

abbrev tBr : TypeId := 104
abbrev tHold : TypeId := 121
abbrev tAnsw : TypeId := 161
abbrev tHeader : TypeId := 107

/-- What a list of packets says of each number. -/
def pkF (l : List Pk) (k : Int) : Option Value := (l.find? fun p => p.seq == k).map Pk.agg
def ansV (b : Bool) : Value := .int .i64 (if b then 1 else 2)
def ansF (l : List (Int × Bool)) (k : Int) : Option Value := (l.find? fun a => a.1 == k).map fun a => ansV a.2
def encU (k : Int) : Value := .int .u64 k
def encH (k : Int × Int) : Value := .agg #[.int .i64 k.1, .int .i64 k.2]

/-- A header in the program's row: what it says in all, what was new, and where its lists lie. -/
structure HdN where
  hd : Hd
  sent : List Pk
  gone : List Int
  ans : List Bool
  ap : Option Addr
  cp : Nat
  ag : Option Addr
  cg : Nat
  aa : Option Addr
  ca : Nat

abbrev HdN.vs (h : HdN) : Value := .slice h.ap h.sent.length h.cp
abbrev HdN.vg (h : HdN) : Value := .slice h.ag h.gone.length h.cg
abbrev HdN.va (h : HdN) : Value := .slice h.aa h.ans.length h.ca

def HdN.cells (h : HdN) : List Value := [.int .u64 h.hd.height, .int .u64 h.hd.time, .bool h.hd.isOpen, .int .u64 h.hd.nextRecv, .int .i64 h.hd.packets.length, .int .i64 h.hd.answers.length, h.vs, h.vg, h.va]

/-- Where a chain's maps and lists lie, and what is new since the newest header. -/
structure DAt where
  bp : Nat
  bf : Nat
  kp : Nat
  ka : Nat
  ff : Int × Int → Option Value
  nf : Nat
  sent : List Pk
  ap : Option Addr
  cp : Nat
  gone : List Int
  ag : Option Addr
  cg : Nat
  ans : List Bool
  aa : Option Addr
  ca : Nat
  hs : List HdN
  ah : Option Addr
  ch : Nat

abbrev DAt.vs (a : DAt) : Value := .slice a.ap a.sent.length a.cp
abbrev DAt.vg (a : DAt) : Value := .slice a.ag a.gone.length a.cg
abbrev DAt.va (a : DAt) : Value := .slice a.aa a.ans.length a.ca
abbrev DAt.vh (a : DAt) : Value := .slice a.ah a.hs.length a.ch

def dchCells (S : Ch) (K : Hd) (a : DAt) : List Value :=
  [.bool S.hd.isOpen, .int .u64 S.nextSend, .int .u64 S.hd.nextRecv, .map (some a.bp), a.vs, a.vg, a.va, .int .i64 S.n, .int .u64 S.hd.height, .int .u64 S.hd.time, .map (some a.bf), .int .u64 S.locked, .int .u64 S.about, a.vh,
   .int .u64 K.height, .int .u64 K.time, .bool K.isOpen, .int .u64 K.nextRecv, .int .i64 K.packets.length, .int .i64 K.answers.length, .map (some a.kp), .map (some a.ka)]

def num : Int → List Bool → List (Int × Bool)
  | _, [] => []
  | n, b :: r => (n, b) :: num (n + 1) r

/-- What a header's news make of what was known. -/
def learnP (f : Int → Option Value) (sent : List Pk) (gone : List Int) : Int → Option Value := gone.foldl delF (sent.foldl (fun g p => putF g p.seq p.agg) f)

structure News (A B : Hd) (sent : List Pk) (gone : List Int) (ans : List Bool) : Prop where
  p : ∀ k, pkF B.packets k = learnP (pkF A.packets) sent gone k
  a : B.answers = A.answers ++ num A.nextRecv ans

structure GoodHd (h : Hd) (B : Nat) : Prop where
  recv : h.nextRecv = h.answers.length + 1
  ans : ∀ (i : Nat) (a : Int × Bool), h.answers[i]? = some a → a.1 = (i : Int) + 1
  seqs : h.packets.Pairwise (fun p r => p.seq < r.seq)
  pos : ∀ p ∈ h.packets, 1 ≤ p.seq ∧ p.seq ≤ B
  val : ∀ p ∈ h.packets, (0 ≤ p.src ∧ p.src ≤ 2) ∧ (0 ≤ p.coin ∧ p.coin ≤ 1)
  lp : h.packets.length ≤ B
  la : h.answers.length ≤ B

/-- Each header tells what is new since the one before. -/
def Told : List HdN → Prop
  | [] => True
  | [_] => True
  | a :: b :: r => News a.hd b.hd b.sent b.gone b.ans ∧ Told (b :: r)

def FundsOk (f : Int × Int → Option Value) (S : Ch) : Prop :=
  ∀ u c : Int, (f (u, c)).getD (.int .u64 0) = .int .u64 (if (0 ≤ u ∧ u ≤ 2) ∧ (0 ≤ c ∧ c ≤ 1) then S.get (hasAt u c) else 0)

/-- The rows of a header: nobody writes into them. -/
def HdRows (lab : Nat → Nat) (w : World) (h : HdN) : Prop :=
  (w.ownsRow 0 tPk 7 h.vs h.sent.length (h.sent.flatMap Pk.cells) ∧ labelled lab h.vs 0) ∧ (w.ownsRow 0 tU64 1 h.vg h.gone.length (h.gone.map encU) ∧ labelled lab h.vg 0) ∧ (w.ownsRow 0 tAnsw 1 h.va h.ans.length (h.ans.map ansV) ∧ labelled lab h.va 0)

structure GoodCh (S : Ch) (a : DAt) (B : Nat) : Prop where
  hd : GoodHd S.hd B
  send : 1 ≤ S.nextSend ∧ S.nextSend ≤ B + 1
  below : ∀ p ∈ S.hd.packets, p.seq < S.nextSend
  gone : ∀ k ∈ a.gone, 1 ≤ k ∧ k < S.nextSend
  heads : ∀ (i : Nat) (h : Hd), S.heads[i]? = some h → h.height = i ∧ GoodHd h B
  lh : S.heads.length ≤ B + 1
  ls : a.sent.length ≤ B
  lg : a.gone.length ≤ B
  lan : a.ans.length ≤ B
  lf : a.nf ≤ B
  news : ∃ L, a.hs.getLast? = some L ∧ News L.hd S.hd a.sent a.gone a.ans
  told : Told a.hs
  lens : ∀ h ∈ a.hs, h.sent.length ≤ B ∧ h.gone.length ≤ B ∧ h.ans.length ≤ B ∧ ∀ k ∈ h.gone, 1 ≤ k ∧ k ≤ B
  sseq : ∀ p ∈ a.sent, 1 ≤ p.seq ∧ p.seq ≤ B
  hseq : ∀ h ∈ a.hs, ∀ p ∈ h.sent, 1 ≤ p.seq ∧ p.seq ≤ B

/-- A chain of the program, in block x behind the cells 'pre': S what the document has of it, K the header of the other that it knows. -/
structure DevCh (lab : Nat → Nat) (l : Nat) (w : World) (x : Nat) (pre post : List Value) (S : Ch) (K : Hd) (a : DAt) (B : Nat) : Prop where
  blk : w.heap[x]? = some (.cells (pre ++ dchCells S K a ++ post).toArray tBr (0, 0))
  lx : lab x ≠ l ∧ lab x ≠ 0
  pend : MapIs Tryz.prog tU64 encU w a.bp (pkF S.hd.packets) S.hd.packets.length
  fund : MapIs Tryz.prog tHold encH w a.bf a.ff a.nf
  kpk : MapIs Tryz.prog tU64 encU w a.kp (pkF K.packets) K.packets.length
  kan : MapIs Tryz.prog tU64 encU w a.ka (ansF K.answers) K.answers.length
  lmap : lab a.bp = l ∧ lab a.bf = l ∧ lab a.kp = l ∧ lab a.ka = l
  apart : (a.bp ≠ a.bf ∧ a.bp ≠ a.kp ∧ a.bp ≠ a.ka) ∧ (a.bf ≠ a.kp ∧ a.bf ≠ a.ka) ∧ a.kp ≠ a.ka
  sent : w.ownsRow 0 tPk 7 a.vs a.sent.length (a.sent.flatMap Pk.cells)
  lsent : labelled lab a.vs l
  gone : w.ownsRow 0 tU64 1 a.vg a.gone.length (a.gone.map encU)
  lgone : labelled lab a.vg l
  ans : w.ownsRow 0 tAnsw 1 a.va a.ans.length (a.ans.map ansV)
  lans : labelled lab a.va l
  heads : w.ownsRow 0 tHeader 9 a.vh a.hs.length (a.hs.flatMap HdN.cells)
  lheads : labelled lab a.vh l
  each : ∀ h ∈ a.hs, HdRows lab w h
  hsS : a.hs.map HdN.hd = S.heads
  fok : FundsOk a.ff S
  good : GoodCh S a B
  goodK : GoodHd K B

/-- What a step of a chain (block x, label l) leaves alone. -/
structure StepL (l x : Nat) (lab lab' : Nat → Nat) (w w' : World) : Prop where
  os : w'.os = w.os
  tape : w'.tape = w.tape
  output : w'.output = w.output
  size : w.heap.size ≤ w'.heap.size
  label : ∀ k, k < w.heap.size → lab' k = lab k
  block : ∀ k, k < w.heap.size → lab k ≠ l → k ≠ x → w'.heap[k]? = w.heap[k]?
  new : ∀ k, w.heap.size ≤ k → k < w'.heap.size → lab' k = l ∨ lab' k = 0

theorem StepL.refl (l x : Nat) (lab : Nat → Nat) (w : World) : StepL l x lab lab w w := ⟨rfl, rfl, rfl, Nat.le_refl _, fun _ _ => rfl, fun _ _ _ _ => rfl, fun k h1 h2 => by omega⟩

theorem StepL.trans {l x : Nat} {lab lab1 lab2 : Nat → Nat} {w w1 w2 : World} (h : StepL l x lab lab1 w w1) (g : StepL l x lab1 lab2 w1 w2) : StepL l x lab lab2 w w2 := by
  refine ⟨g.os.trans h.os, g.tape.trans h.tape, g.output.trans h.output, Nat.le_trans h.size g.size, fun k hk => (g.label k (Nat.lt_of_lt_of_le hk h.size)).trans (h.label k hk), fun k hk h1 h2 => ?_, fun k h1 h2 => ?_⟩
  · exact (g.block k (Nat.lt_of_lt_of_le hk h.size) (by rw [h.label k hk]; exact h1) h2).trans (h.block k hk h1 h2)
  · by_cases e : k < w1.heap.size
    · rw [g.label k e]; exact h.new k h1 e
    · exact g.new k (by omega) h2

/-- What a chain's step has left. -/
def DevTo (lab : Nat → Nat) (l : Nat) (w : World) (x : Nat) (pre post : List Value) (S' : Ch) (K' : Hd) (B' : Nat) (w' : World) : Prop :=
  ∃ lab' a', DevCh lab' l w' x pre post S' K' a' B' ∧ StepL l x lab lab' w w'

theorem DevTo.trans {lab : Nat → Nat} {l : Nat} {w w1 w2 : World} {x : Nat} {pre post : List Value} {S2 : Ch} {K2 : Hd} {B2 : Nat} {lab1 : Nat → Nat} (h : StepL l x lab lab1 w w1) (g : DevTo lab1 l w1 x pre post S2 K2 B2 w2) : DevTo lab l w x pre post S2 K2 B2 w2 := by
  obtain ⟨lab2, a2, g1, g2⟩ := g
  exact ⟨lab2, a2, g1, h.trans g2⟩

theorem GoodHd.mono {h : Hd} {B B' : Nat} (g : GoodHd h B) (hB : B ≤ B') : GoodHd h B' :=
  ⟨g.recv, g.ans, g.seqs, fun p hp => ⟨(g.pos p hp).1, by have := (g.pos p hp).2; omega⟩, g.val, Nat.le_trans g.lp hB, Nat.le_trans g.la hB⟩

theorem GoodCh.mono {S : Ch} {a : DAt} {B B' : Nat} (g : GoodCh S a B) (hB : B ≤ B') : GoodCh S a B' := by
  obtain ⟨g1, g2, g3, g4, g6, g7, g8, g9, g10, g11, g12, g13, g14, g15, g16⟩ := g
  exact ⟨g1.mono hB, ⟨g2.1, by omega⟩, g3, g4, fun i h e => ⟨(g6 i h e).1, (g6 i h e).2.mono hB⟩, by omega, by omega, by omega, by omega, by omega, g12, g13,
    fun h e => ⟨by have := (g14 h e).1; omega, by have := (g14 h e).2.1; omega, by have := (g14 h e).2.2.1; omega, fun k e2 => ⟨((g14 h e).2.2.2 k e2).1, by have := ((g14 h e).2.2.2 k e2).2; omega⟩⟩,
    fun p e => ⟨(g15 p e).1, by have := (g15 p e).2; omega⟩, fun h e p e2 => ⟨(g16 h e p e2).1, by have := (g16 h e p e2).2; omega⟩⟩

theorem DevCh.mono {lab : Nat → Nat} {l : Nat} {w : World} {x : Nat} {pre post : List Value} {S : Ch} {K : Hd} {a : DAt} {B B' : Nat} (h : DevCh lab l w x pre post S K a B) (hB : B ≤ B') : DevCh lab l w x pre post S K a B' :=
  { h with good := h.good.mono hB, goodK := h.goodK.mono hB }

theorem HdRows.keep {lab lab' : Nat → Nat} {w w' : World} {h : HdN} (g : HdRows lab w h) (hb : ∀ k, k < w.heap.size → lab k = 0 → w'.heap[k]? = w.heap[k]?) (hl : ∀ k, k < w.heap.size → lab' k = lab k) : HdRows lab' w' h := by
  obtain ⟨⟨a1, a2⟩, ⟨b1, b2⟩, c1, c2⟩ := g
  exact ⟨⟨owns_keep a1 fun k e => hb k (owns_lt a1 e) (a2 k e), fun k e => (hl k (owns_lt a1 e)).trans (a2 k e)⟩, ⟨owns_keep b1 fun k e => hb k (owns_lt b1 e) (b2 k e), fun k e => (hl k (owns_lt b1 e)).trans (b2 k e)⟩,
    owns_keep c1 fun k e => hb k (owns_lt c1 e) (c2 k e), fun k e => (hl k (owns_lt c1 e)).trans (c2 k e)⟩

/-- A chain stays where its blocks do. -/
theorem DevCh.keep {lab lab' : Nat → Nat} {l : Nat} {w w' : World} {x : Nat} {pre post pre' post' : List Value} {S : Ch} {K : Hd} {a : DAt} {B : Nat} (h : DevCh lab l w x pre post S K a B)
    (hx : w'.heap[x]? = some (.cells (pre' ++ dchCells S K a ++ post').toArray tBr (0, 0))) (hb : ∀ k, k < w.heap.size → lab k = l ∨ lab k = 0 → w'.heap[k]? = w.heap[k]?) (hl : ∀ k, k < w.heap.size → lab' k = lab k) : DevCh lab' l w' x pre' post' S K a B := by
  have row : ∀ {e size n : Nat} {v : Value} {xs : List Value}, w.ownsRow 0 e size v n xs → labelled lab v l → w'.ownsRow 0 e size v n xs ∧ labelled lab' v l := fun h1 h2 =>
    ⟨owns_keep h1 fun k e => hb k (owns_lt h1 e) (.inl (h2 k e)), fun k e => (hl k (owns_lt h1 e)).trans (h2 k e)⟩
  obtain ⟨m1, m2, m3, m4⟩ := h.lmap
  refine ⟨hx, by rw [hl x (blk_lt h.blk)]; exact h.lx, h.pend.keep (hb _ h.pend.lt (.inl m1)), h.fund.keep (hb _ h.fund.lt (.inl m2)), h.kpk.keep (hb _ h.kpk.lt (.inl m3)), h.kan.keep (hb _ h.kan.lt (.inl m4)),
    ⟨(hl _ h.pend.lt).trans m1, (hl _ h.fund.lt).trans m2, (hl _ h.kpk.lt).trans m3, (hl _ h.kan.lt).trans m4⟩, h.apart, (row h.sent h.lsent).1, (row h.sent h.lsent).2, (row h.gone h.lgone).1, (row h.gone h.lgone).2,
    (row h.ans h.lans).1, (row h.ans h.lans).2, (row h.heads h.lheads).1, (row h.heads h.lheads).2, fun y hy => (h.each y hy).keep (fun k hk e => hb k hk (.inr e)) hl, h.hsS, h.fok, h.good, h.goodK⟩

/-- Nothing that was there has turned. -/
theorem DevCh.grown {lab : Nat → Nat} {l : Nat} {w w' : World} {x : Nat} {pre post : List Value} {S : Ch} {K : Hd} {a : DAt} {B : Nat} (h : DevCh lab l w x pre post S K a B) (g : w.grownBy w' none) : DevCh lab l w' x pre post S K a B :=
  h.keep ((g.block x (blk_lt h.blk) (by simp)).trans h.blk) (fun k hk _ => g.block k hk (by simp)) (fun _ _ => rfl)

/-- Labels of what is not there yet. -/
def labN (lab : Nat → Nat) (n : Nat) : Nat → Nat := fun k => if k < n then lab k else 0

theorem labN_old {lab : Nat → Nat} {n k : Nat} (h : k < n) : labN lab n k = lab k := by simp [labN, h]
theorem labN_new {lab : Nat → Nat} {n k : Nat} (h : n ≤ k) : labN lab n k = 0 := by simp [labN]; omega

theorem grown_stepL {l x : Nat} {lab : Nat → Nat} {w w' : World} (g : w.grownBy w' none) : StepL l x lab (labN lab w.heap.size) w w' :=
  ⟨g.os, g.tape, g.output, g.size, fun _ hk => labN_old hk, fun k hk _ _ => g.block k hk (by simp), fun _ h1 _ => .inr (labN_new h1)⟩

theorem DevCh.same {lab : Nat → Nat} {l : Nat} {w w' : World} {x : Nat} {pre post : List Value} {S : Ch} {K : Hd} {a : DAt} {B : Nat} (h : DevCh lab l w x pre post S K a B) (g : w.grownBy w' none) : DevTo lab l w x pre post S K B w' :=
  ⟨_, a, h.keep (lab' := labN lab w.heap.size) ((g.block x (blk_lt h.blk) (by simp)).trans h.blk) (fun k hk _ => g.block k hk (by simp)) (fun _ hk => labN_old hk), grown_stepL g⟩

/-- A cell of the chain is set. -/
theorem blkq_set {w : World} {x : Nat} {pre post cs : List Value} {t : TypeId} (h : w.heap[x]? = some (.cells (pre ++ cs ++ post).toArray t (0, 0))) {q : Nat} (hq : pre.length = q) (j : Nat) (hj : j < cs.length) (v : Value) :
    (w.setCell ⟨x, q + j, none⟩ v).heap[x]? = some (.cells (pre ++ cs.set j v ++ post).toArray t (0, 0)) := by
  rw [setCell_same h]
  congr 2
  rw [List.setIfInBounds_toArray]
  congr 1
  subst hq
  rw [List.append_assoc, List.set_append_right _ _ (by omega), show pre.length + j - pre.length = j by omega, List.set_append_left _ _ hj, List.append_assoc]

theorem blkq_cell {w : World} {x : Nat} {pre post cs : List Value} {t : TypeId} (h : w.heap[x]? = some (.cells (pre ++ cs ++ post).toArray t (0, 0))) {q : Nat} (hq : pre.length = q) (j : Nat) (v : Value) (hj : cs[j]? = some v) : w.cell? ⟨x, q + j, none⟩ = some v := by
  subst hq
  have hl : j < cs.length := (List.getElem?_eq_some_iff.1 hj).1
  simp only [World.cell?, h]
  have e : (pre ++ cs ++ post)[pre.length + j]? = some v := by
    rw [List.append_assoc, List.getElem?_append_right (by omega), show pre.length + j - pre.length = j by omega, List.getElem?_append_left hl]
    exact hj
  simpa using e

theorem blkq_free {w : World} {x : Nat} {cs : Array Value} {t : TypeId} (h : w.heap[x]? = some (.cells cs t (0, 0))) : ∀ k, w.frozen? ⟨x, k, none⟩ = false := by
  intro k
  simp [World.frozen?, h]

/-- The cells of a chain. -/
theorem dch_cells {w : World} {x q : Nat} {pre post : List Value} {S : Ch} {K : Hd} {a : DAt} (h : w.heap[x]? = some (.cells (pre ++ dchCells S K a ++ post).toArray tBr (0, 0))) (hq : pre.length = q) :
    w.cell? ⟨x, q, none⟩ = some (.bool S.hd.isOpen) ∧ w.cell? ⟨x, q + 1, none⟩ = some (.int .u64 S.nextSend) ∧ w.cell? ⟨x, q + 2, none⟩ = some (.int .u64 S.hd.nextRecv) ∧ w.cell? ⟨x, q + 3, none⟩ = some (.map (some a.bp)) ∧
    w.cell? ⟨x, q + 4, none⟩ = some (.slice a.ap a.sent.length a.cp) ∧ w.cell? ⟨x, q + 5, none⟩ = some (.slice a.ag a.gone.length a.cg) ∧ w.cell? ⟨x, q + 6, none⟩ = some (.slice a.aa a.ans.length a.ca) ∧ w.cell? ⟨x, q + 7, none⟩ = some (.int .i64 S.n) ∧
    w.cell? ⟨x, q + 8, none⟩ = some (.int .u64 S.hd.height) ∧ w.cell? ⟨x, q + 9, none⟩ = some (.int .u64 S.hd.time) ∧ w.cell? ⟨x, q + 10, none⟩ = some (.map (some a.bf)) ∧ w.cell? ⟨x, q + 11, none⟩ = some (.int .u64 S.locked) ∧
    w.cell? ⟨x, q + 12, none⟩ = some (.int .u64 S.about) ∧ w.cell? ⟨x, q + 13, none⟩ = some (.slice a.ah a.hs.length a.ch) ∧ w.cell? ⟨x, q + 14, none⟩ = some (.int .u64 K.height) ∧ w.cell? ⟨x, q + 15, none⟩ = some (.int .u64 K.time) ∧
    w.cell? ⟨x, q + 16, none⟩ = some (.bool K.isOpen) ∧ w.cell? ⟨x, q + 17, none⟩ = some (.int .u64 K.nextRecv) ∧ w.cell? ⟨x, q + 18, none⟩ = some (.int .i64 K.packets.length) ∧ w.cell? ⟨x, q + 19, none⟩ = some (.int .i64 K.answers.length) ∧
    w.cell? ⟨x, q + 20, none⟩ = some (.map (some a.kp)) ∧ w.cell? ⟨x, q + 21, none⟩ = some (.map (some a.ka)) ∧ (∀ k, w.frozen? ⟨x, k, none⟩ = false) := by
  refine ⟨blkq_cell h hq 0 _ rfl, blkq_cell h hq 1 _ rfl, blkq_cell h hq 2 _ rfl, blkq_cell h hq 3 _ rfl, blkq_cell h hq 4 _ rfl, blkq_cell h hq 5 _ rfl, blkq_cell h hq 6 _ rfl, blkq_cell h hq 7 _ rfl, blkq_cell h hq 8 _ rfl, blkq_cell h hq 9 _ rfl, blkq_cell h hq 10 _ rfl, blkq_cell h hq 11 _ rfl,
    blkq_cell h hq 12 _ rfl, blkq_cell h hq 13 _ rfl, blkq_cell h hq 14 _ rfl, blkq_cell h hq 15 _ rfl, blkq_cell h hq 16 _ rfl, blkq_cell h hq 17 _ rfl, blkq_cell h hq 18 _ rfl, blkq_cell h hq 19 _ rfl, blkq_cell h hq 20 _ rfl, blkq_cell h hq 21 _ rfl, blkq_free h⟩

/-- The keys' types. -/
theorem lawU : Keyed Tryz.prog tU64 := int_keyed Tryz.underlying26
theorem lawHk : WideMaps.KeyLaw Tryz.prog tHold := deep_law (m := 3) (by decide) (by kernel_rfl) (by kernel_rfl) (by kernel_rfl)
theorem lawH : Keyed Tryz.prog tHold := Keyed.of_law lawHk
theorem keyU {k : Int} (h : 0 ≤ k) (h1 : k < 18446744073709551616) : keyOf Tryz.prog tU64 (encU k) = some (.int .u64 k) := keyOf_int_mk Tryz.underlying26 (by simp [Lit.wf, IntKind.min, IntKind.max, IntKind.bits, IntKind.signed]; omega)
theorem encU_inj (x y : Int) (h : encU x = encU y) : x = y := by simpa [encU] using h
theorem encH_inj (x y : Int × Int) (h : encH x = encH y) : x = y := by
  simp [encH] at h
  exact Prod.ext h.1 h.2

end Go.Proofs.YtmfdhcnnhlchbaaGreat

namespace Go.Proofs.YtmfdhcnnhlchbaaGreat
open Go.RowKit Go.Sort

/-- Block g has N cells of uint64; from cell o on they hold d. -/
def RowAt (w : World) (g o N : Nat) (d : Array Int) : Prop := ∃ cur, w.heap[g]? = some (.cells cur tU64 (0, 0)) ∧ cur.size = N ∧ o + d.size ≤ N ∧ ∀ j, j < d.size → cur[o + j]? = some (.int .u64 d[j]!)

/-- What a sort has left: the row holds d, all else is as it was. -/
structure Sorted (w : World) (g o N : Nat) (d : Array Int) (w' : World) : Prop where
  row : RowAt w' g o N d
  by_ : w.grownBy w' (some g)
  size : w'.heap.size = w.heap.size

theorem RowAt.cell {w : World} {g o N : Nat} {d : Array Int} (h : RowAt w g o N d) : ∀ t, t < d.size → w.cell? ⟨g, o + t, none⟩ = some (.int .u64 d[t]!) := by
  obtain ⟨cur, hb, _, _, hc⟩ := h
  intro t ht
  simp only [World.cell?, hb]
  simpa using hc t ht

theorem RowAt.free {w : World} {g o N : Nat} {d : Array Int} (h : RowAt w g o N d) : ∀ t, t < d.size → w.frozen? ⟨g, o + t, none⟩ = false := by
  obtain ⟨cur, hb, _⟩ := h
  intro t _
  simp [World.frozen?, hb]

theorem RowAt.heap {w w' : World} {g o N : Nat} {d : Array Int} (h : RowAt w g o N d) (e : w'.heap = w.heap) : RowAt w' g o N d := by
  obtain ⟨cur, hb, r⟩ := h
  exact ⟨cur, by rw [e]; exact hb, r⟩

theorem get_swap (d : Array Int) (i j t : Nat) (hi : i < d.size) (hj : j < d.size) : (swp d i j)[t]! = if t = j then d[i]! else if t = i then d[j]! else d[t]! := by
  by_cases h1 : t = j
  · rw [if_pos h1, h1]
    exact swp_right d i j hj
  · rw [if_neg h1]
    by_cases h2 : t = i
    · rw [if_pos h2, h2]
      exact swp_left d i j hi (fun e => h1 (h2.trans e))
    · rw [if_neg h2]
      exact swp_other d i j t h2 h1

/-- Two cells of the row are exchanged. -/
theorem RowAt.swap {w : World} {g o N : Nat} {d : Array Int} (h : RowAt w g o N d) {i j : Nat} (hi : i < d.size) (hj : j < d.size) :
    RowAt ((w.setCell ⟨g, o + i, none⟩ (.int .u64 d[j]!)).setCell ⟨g, o + j, none⟩ (.int .u64 d[i]!)) g o N (swp d i j) := by
  obtain ⟨cur, hb, hs, hl, hc⟩ := h
  refine ⟨(cur.setIfInBounds (o + i) (.int .u64 d[j]!)).setIfInBounds (o + j) (.int .u64 d[i]!), setCell_same (setCell_same hb _ _) _ _, by simpa using hs, by rw [size_swp]; exact hl, fun t ht => ?_⟩
  rw [size_swp] at ht
  rw [get_swap d i j t hi hj]
  rw [Array.getElem?_setIfInBounds, Array.getElem?_setIfInBounds]
  simp only [Array.size_setIfInBounds]
  by_cases h1 : t = j
  · subst h1
    rw [if_pos rfl, if_pos (by omega), if_pos rfl]
  · rw [if_neg (by omega), if_neg h1]
    by_cases h2 : t = i
    · subst h2
      rw [if_pos rfl, if_pos (by omega), if_pos rfl]
    · rw [if_neg (by omega), if_neg h2]
      exact hc t ht

theorem Sorted.start {w : World} {g o N : Nat} {d : Array Int} (h : RowAt w g o N d) : Sorted w g o N d w := ⟨h, grown_refl w _, rfl⟩

theorem Sorted.drewN {w w' : World} {g o N : Nat} {d : Array Int} (h : Sorted w g o N d w') (q : Nat) : Sorted w g o N d (w'.drewN q) := ⟨h.row.heap (drewN_heap _ _), grown_drewN h.by_ q, by rw [drewN_heap]; exact h.size⟩

theorem Sorted.drew {w w' : World} {g o N : Nat} {d : Array Int} (h : Sorted w g o N d w') : Sorted w g o N d w'.drew := ⟨h.row.heap rfl, grown_drew h.by_, h.size⟩

theorem Sorted.swap {w w' : World} {g o N : Nat} {d : Array Int} (h : Sorted w g o N d w') {i j : Nat} (hi : i < d.size) (hj : j < d.size) : Sorted w g o N (swp d i j) ((w'.setCell ⟨g, o + i, none⟩ (.int .u64 d[j]!)).setCell ⟨g, o + j, none⟩ (.int .u64 d[i]!)) :=
  ⟨h.row.swap hi hj, grown_set (grown_set h.by_ _ _ (.inl rfl)) _ _ (.inl rfl), by rw [setCell_size, setCell_size]; exact h.size⟩

theorem Sorted.trans {w w1 w2 : World} {g o N : Nat} {d1 d2 : Array Int} (h1 : Sorted w g o N d1 w1) (h2 : Sorted w1 g o N d2 w2) : Sorted w g o N d2 w2 := ⟨h2.row, grown_trans h1.by_ h2.by_ (fun _ e => .inl e), h2.size.trans h1.size⟩

theorem wrap_i {n : Nat} (h : n < 9000000000000) : IntKind.i64.wrap (n : Int) = n := by simp [IntKind.wrap, IntKind.bits, IntKind.signed]; omega

theorem of_not {b : Bool} (h : (!b) = true) : b = false := by simpa using h
theorem of_nnot {b : Bool} (h : (!b) = false) : b = true := by simpa using h

def intV : Value → Int | .int _ q => q | _ => 0

set_option maxRecDepth 100000 in
theorem isNaN_no (x : Int) (w : World) : Calls Tryz.prog 113 #[.int .u64 x] w fun e w' => e = .returned (.bool false) ∧ w' = w := by
  go_enter Tryz.func113, Tryz.ntmps113
  go_wp2_with fail
  go_ret
  exact ⟨by simp, rfl⟩

set_option maxRecDepth 100000 in
theorem less_is (x y : Int) (w : World) : Calls Tryz.prog 103 #[.int .u64 x, .int .u64 y] w fun e w' => e = .returned (.bool (ltInt x y)) ∧ w' = w := by
  unfold ltInt
  go_enter Tryz.func103, Tryz.ntmps103
  go_wp2_with fail
  refine (isNaN_no x w).mono ?_
  rintro e w1 ⟨rfl, rfl⟩
  go_wp2_with fail
  go_ret
  exact ⟨rfl, rfl⟩

end Go.Proofs.YtmfdhcnnhlchbaaGreat
