import Derived.Test.YtmfdhcnnhlchbaaC04
import Derived.Lib.SliceRun
namespace Go.Proofs.Ytmfdhcnnhlchbaa
open Go.RowKit Go.Maps

def Ch.replied (S : Ch) (b : Bool) : Ch := { S with hd := { S.hd with nextRecv := IntKind.u64.wrap (S.hd.nextRecv + 1), answers := S.hd.answers ++ [(S.hd.nextRecv, b)] } }

theorem num_snoc : ∀ (l : List Bool) (n : Int) (b : Bool), num n (l ++ [b]) = num n l ++ [(n + l.length, b)]
  | [], n, b => by simp [num]
  | c :: l, n, b => by
    simp only [List.cons_append, num, num_snoc l (n + 1) b, List.length_cons]
    congr 3
    simp
    omega

theorem num_length : ∀ (l : List Bool) (n : Int), (num n l).length = l.length
  | [], _ => rfl
  | c :: l, n => by simp [num, num_length l]

theorem DevCh.head_good {lab : Nat → Nat} {l : Nat} {w : World} {x : Nat} {pre post : List Value} {S : Ch} {K : Hd} {a : DAt} {B : Nat} (h : DevCh lab l w x pre post S K a B) {y : HdN} (hy : y ∈ a.hs) : GoodHd y.hd B := by
  have : y.hd ∈ S.heads := by rw [← h.hsS]; exact List.mem_map.2 ⟨y, hy, rfl⟩
  obtain ⟨i, hi⟩ := List.getElem?_of_mem this
  exact (h.good.heads i _ hi).2

theorem replied_good {S : Ch} {a : DAt} {B : Nat} {b : Bool} (g : GoodCh S a B) (hB : B ≤ 10000000) (hgL : ∀ y ∈ a.hs, GoodHd y.hd B) (a4 : Option Addr) (k4 : Nat) : GoodCh (S.replied b) { a with ans := a.ans ++ [b], aa := a4, ca := k4 } (B + 1) := by
  obtain ⟨L, hL, hN⟩ := g.news
  have h0 := g.mono (Nat.le_succ B)
  have hr := g.hd.recv
  have hla := g.hd.la
  have hLr := (hgL L (List.mem_of_getLast? hL)).recv
  have hw : IntKind.u64.wrap (S.hd.nextRecv + 1) = S.hd.nextRecv + 1 := wrap_next (B := B) (by omega) (by omega) hB
  refine ⟨⟨?_, ?_, g.hd.seqs, h0.hd.pos, g.hd.val, h0.hd.lp, ?_⟩, h0.send, g.below, g.gone, h0.heads, h0.lh, h0.ls, h0.lg, ?_, h0.lf, ⟨L, hL, ⟨hN.p, ?_⟩⟩, g.told, h0.lens, h0.sseq, h0.hseq⟩
  · simp only [Ch.replied]
    rw [hw]
    simp
    omega
  · intro i y hy
    simp only [Ch.replied] at hy
    by_cases e : i < S.hd.answers.length
    · rw [List.getElem?_append_left e] at hy
      exact g.hd.ans i y hy
    · have hi : i < (S.hd.answers ++ [(S.hd.nextRecv, b)]).length := (List.getElem?_eq_some_iff.1 hy).1
      simp at hi
      obtain rfl : i = S.hd.answers.length := by omega
      simp at hy
      subst hy
      simp
      omega
  · simp [Ch.replied]; omega
  · have := g.lan; simp; omega
  · show S.hd.answers ++ [(S.hd.nextRecv, b)] = L.hd.answers ++ num L.hd.nextRecv (a.ans ++ [b])
    rw [num_snoc, hN.a, List.append_assoc]
    congr 3
    have : S.hd.answers.length = L.hd.answers.length + a.ans.length := by rw [hN.a, List.length_append, num_length]
    simp
    omega

theorem reply_done {lab : Nat → Nat} {l : Nat} {w w' : World} {x : Nat} {pre post : List Value} {S : Ch} {K : Hd} {a : DAt} {B : Nat} {b : Bool} (h : DevCh lab l w x pre post S K a B) (hl : l ≠ 0) (hB : B ≤ 10000000) (t : Turned x none a.va.ownBlock w w')
    (a4 : Option Addr) (k4 : Nat) (hx : w'.heap[x]? = some (.cells (pre ++ dchCells (S.replied b) K { a with ans := a.ans ++ [b], aa := a4, ca := k4 } ++ post).toArray tBr (0, 0)))
    (hR : w'.ownsRow 0 tAnsw 1 (.slice a4 (a.ans.length + 1) k4) (a.ans.length + 1) (a.ans.map ansV ++ [ansV b])) (hf : ∀ k, (Value.slice a4 (a.ans.length + 1) k4).ownBlock = some k → k < w.heap.size → lab k = l) :
    DevTo lab l w x pre post (S.replied b) K (B + 1) w' := by
  refine dev_build (a' := { a with ans := a.ans ++ [b], aa := a4, ca := k4 }) h hl t.os t.tape t.output t.size (t.keep (fun k e => by cases e) (fun k e => h.lans k e)) hx ⟨rfl, rfl, rfl, rfl⟩ ?_ ?_ ?_ ?_ ?_ ?_ ?_ ?_ ?_ ?_ ?_ ?_ ?_ ?_ ?_ (replied_good h.good hB (fun y hy => h.head_good hy) a4 k4) (h.goodK.mono (Nat.le_succ B))
  · exact t.map h.blk h.pend (by simp) (map_ne_row h.pend h.ans)
  · exact t.map h.blk h.fund (by simp) (map_ne_row h.fund h.ans)
  · exact t.map h.blk h.kpk (by simp) (map_ne_row h.kpk h.ans)
  · exact t.map h.blk h.kan (by simp) (map_ne_row h.kan h.ans)
  · exact t.row h.blk h.sent (by decide) (fun e => absurd rfl e) (row_apart h.sent h.ans (by decide))
  · exact fun k e _ => h.lsent k e
  · exact t.row h.blk h.gone (by decide) (fun e => absurd rfl e) (row_apart h.gone h.ans (by decide))
  · exact fun k e _ => h.lgone k e
  · simpa [DAt.va] using hR
  · intro k e; exact hf k (by simpa [DAt.va] using e)
  · exact t.row h.blk h.heads (by decide) (fun e => absurd rfl e) (row_apart h.heads h.ans (by decide))
  · exact fun k e _ => h.lheads k e
  · exact fun y hy => .inl hy
  · exact h.hsS
  · exact h.fok

theorem infoAnsw : (Try.prog.info? 118).map (fun i => (i.zero, i.size, i.bytes)) = some (some (.int .i64 0), 1, 8) := by kernel_rfl

set_option maxRecDepth 100000 in
set_option maxHeartbeats 800000 in
theorem reply_any {lab : Nat → Nat} {l : Nat} {w : World} {x q : Nat} {pre post : List Value} {S : Ch} {K : Hd} {a : DAt} {B : Nat} (h : DevCh lab l w x pre post S K a B) (hl : l ≠ 0) (hq : pre.length = q) (hB : B ≤ 10000000) (b : Bool) (n : Int) (hn : n = if b then 1 else 2) :
    Calls Try.prog 49 #[.pointer (some ⟨x, q, none⟩), .int .i64 n] w fun e w' => e = .returned (.tuple #[]) ∧ DevTo lab l w x pre post (S.replied b) K (B + 1) w' := by
  have hbv : Hid (ansV b = .int .i64 n) := by rw [hn]; rfl
  clear hn
  obtain ⟨c0, c1, c2, c3, c4, c5, c6, c7, c8, c9, c10, c11, c12, c13, c14, c15, c16, c17, c18, c19, c20, c21, cf⟩ := dch_cells h.blk hq
  have hxl : x < w.heap.size := blk_lt h.blk
  obtain ⟨i0, hi0, z0, s0, y0⟩ := info_parts infoAnsw
  have hlg := h.good.lan
  have g1 : w.grownBy (w.setCell ⟨x, q + 2, none⟩ (.int .u64 (IntKind.u64.wrap (S.hd.nextRecv + 1)))) (some x) := grown_set (grown_refl w _) _ _ (.inl rfl)
  have hB2 : (w.setCell ⟨x, q + 2, none⟩ (.int .u64 (IntKind.u64.wrap (S.hd.nextRecv + 1)))).heap[x]? = some (.cells (pre ++ dchCells { S with hd := { S.hd with nextRecv := IntKind.u64.wrap (S.hd.nextRecv + 1) } } K a ++ post).toArray tBr (0, 0)) := blkq_set h.blk hq 2 (by simp [dchCells]) _
  have hP2 : (w.setCell ⟨x, q + 2, none⟩ (.int .u64 (IntKind.u64.wrap (S.hd.nextRecv + 1)))).ownsRow 0 tAnsw 1 (.slice a.aa a.ans.length a.ca) a.ans.length (a.ans.map ansV) := owns_keep h.ans fun k e => g1.block k (owns_lt h.ans e) (fun e1 => owns_ne h.blk h.ans (by decide) (by rw [e, e1]))
  go_enter Try.func49, Try.ntmps49
  go_wp2_with (at_builtin; refine wpList_append_rows rfl (.tmp 16) (.tmp 18) 65 rfl 118 i0 _ 1 8 Try.underlying65 hi0 z0 s0 y0 rfl (by decide) (.slice a.aa a.ans.length a.ca) a.ans.length (a.ans.map ansV) rfl ?ho (.slice (some ⟨w.heap.size, 0, none⟩) 1 1) 1 [.int .i64 n] rfl ?hs ?h1 ?hb1 ?hb2 ?_)
  case ho => exact hP2.alloc _
  case hs =>
    have := @src_row (w.setCell ⟨x, q + 2, none⟩ (.int .u64 (IntKind.u64.wrap (S.hd.nextRecv + 1)))) 118 1 [.int .i64 n] rfl
    rw [setCell_size] at this
    exact this
  case h1 => first | rfl | (intro u hu; simp at hu; subst hu; rfl)
  case hb1 => omega
  case hb2 => omega
  intro v4 w4 own4 grow4 lab4
  obtain ⟨a4, k4, hv4⟩ := owns_form own4
  subst hv4
  have hnb : some x ≠ (Value.slice a.aa a.ans.length a.ca).ownBlock := owns_ne hB2 hP2 (by decide)
  have hB4 := app_keep0 hB2 grow4 hnb
  clear c0 c1 c2 c3 c4 c5 c6 c7 c8 c9 c10 c11 c12 c13 c14 c15 c16 c17 c18 c19 c20 c21 cf
  obtain ⟨c0, c1, c2, c3, c4, c5, c6, c7, c8, c9, c10, c11, c12, c13, c14, c15, c16, c17, c18, c19, c20, c21, cf⟩ := dch_cells hB4 hq
  go_wp2_with fail
  go_end0
  refine ⟨rfl, reply_done h hl hB ?_ a4 k4 ?_ ?_ ?_⟩
  · exact Turned.app0 (turned_x g1) grow4 rfl
  · have := blkq_set hB4 hq 6 (by simp [dchCells]) (.slice a4 (a.ans.length + 1) k4)
    simpa [dchCells, Ch.replied, DAt.vs, DAt.vg, DAt.va, DAt.vh] using this
  · rw [hbv.out]
    exact owns_keep own4 fun k e => setCell_other _ _ _ (fun e1 => owns_ne hB4 own4 (by decide) (by rw [e, e1]))
  · exact lab_fresh h.lans lab4 (by simp)

end Go.Proofs.Ytmfdhcnnhlchbaa

namespace Go.Proofs.Ytmfdhcnnhlchbaa
open Go.RowKit Go.Maps

/-- What a copy of a row has left. -/
def Cloned (t size : Nat) (xs : List Value) (n : Nat) (W : World) (e : Ending) (w' : World) : Prop :=
  ∃ al cl, e = .returned (.slice al n cl) ∧ w'.ownsRow 0 t size (.slice al n cl) n xs ∧ (∀ k, (Value.slice al n cl).ownBlock = some k → W.heap.size ≤ k) ∧ W.grownBy w' none

theorem grown_own {w w1 w2 : World} {k : Nat} (h : w.grownBy w1 none) (g : w1.grownBy w2 (some k)) (hk : w.heap.size ≤ k) : w.grownBy w2 none := grown_trans h g (fun j e => .inr (by cases e; exact hk))

set_option maxRecDepth 100000 in
theorem clonePk {W : World} {al : Option Addr} {n cl : Nat} {l : List Pk} (h : W.ownsRow 0 tPk 7 (.slice al n cl) n (l.flatMap Pk.cells)) (hn : n ≤ 20000000) :
    Calls Try.prog 58 #[.slice al n cl] W (Cloned tPk 7 (l.flatMap Pk.cells) n W) := by
  rcases h.2 with ⟨hv, _⟩ | ⟨g, cap, cur, hv, _, hg, _⟩
  · cases hv
    have hx : l.flatMap Pk.cells = [] := List.eq_nil_of_length_eq_zero (by simpa using h.1)
    have hnil := fun W => Lib.run_eql_slice_nil (P := Try.prog) W 32 43 none 0 0 0 0 Try.underlying32
    go_enter Try.func58, Try.ntmps58
    go_wp2_with fail
    go_ret
    exact ⟨_, _, rfl, by first | exact World.ownsRow_nil _ _ _ _ | (rw [hx]; exact World.ownsRow_nil _ _ _ _), fun k e => by simp [Value.ownBlock] at e, grown_refl _ _⟩
  · cases hv
    obtain ⟨i0, hi0, z0, s0, y0⟩ := info_parts infoPk
    have hnil := fun W => Lib.run_eql_slice_nil (P := Try.prog) W 32 43 (some ⟨g, 0, none⟩) n cl 0 0 Try.underlying32
    go_enter Try.func58, Try.ntmps58
    go_wp2_with (at_builtin; refine wpList_append_rows rfl (.tmp 5) (.tmp 6) 32 rfl 43 i0 _ 7 56 Try.underlying32 hi0 z0 s0 y0 rfl (by decide) (.slice (some ⟨W.heap.size, 0, none⟩) 0 0) 0 [] rfl ?ho (.slice (some ⟨g, 0, none⟩) n cl) n (l.flatMap Pk.cells) rfl ?hs ?h1 ?hb1 ?hb2 ?_)
    case ho => exact ⟨rfl, .inr ⟨W.heap.size, 0, #[], rfl, Nat.zero_le _, heap_alloc_new W _, by simp⟩⟩
    case hs => exact srcRow_of_owns (h.alloc _)
    case h1 => exact pks_one l
    case hb1 => omega
    case hb2 => omega
    intro v4 w4 own4 grow4 lab4
    obtain ⟨a4, k4, hv4⟩ := owns_form own4
    try rw [Nat.zero_add] at hv4
    subst hv4
    go_wp2_with fail
    go_ret
    refine ⟨_, _, rfl, by simpa using own4, fun k e => ?_, grown_own (World.grownBy_alloc W _ none) grow4 (Nat.le_refl _)⟩
    rcases lab4 k e with e1 | e1
    · simp [Value.ownBlock] at e1; omega
    · simp at e1; omega

set_option maxRecDepth 100000 in
theorem cloneU {W : World} {al : Option Addr} {n cl : Nat} {l : List Int} (h : W.ownsRow 0 tU64 1 (.slice al n cl) n (l.map encU)) (hn : n ≤ 20000000) :
    Calls Try.prog 59 #[.slice al n cl] W (Cloned tU64 1 (l.map encU) n W) := by
  rcases h.2 with ⟨hv, _⟩ | ⟨g, cap, cur, hv, _, hg, _⟩
  · cases hv
    have hx : l.map encU = [] := List.eq_nil_of_length_eq_zero (by simpa using h.1)
    have hnil := fun W => Lib.run_eql_slice_nil (P := Try.prog) W 47 28 none 0 0 0 0 Try.underlying47
    go_enter Try.func59, Try.ntmps59
    go_wp2_with fail
    go_ret
    exact ⟨_, _, rfl, by first | exact World.ownsRow_nil _ _ _ _ | (rw [hx]; exact World.ownsRow_nil _ _ _ _), fun k e => by simp [Value.ownBlock] at e, grown_refl _ _⟩
  · cases hv
    obtain ⟨i0, hi0, z0, s0, y0⟩ := info_parts infoU64
    have hnil := fun W => Lib.run_eql_slice_nil (P := Try.prog) W 47 28 (some ⟨g, 0, none⟩) n cl 0 0 Try.underlying47
    go_enter Try.func59, Try.ntmps59
    go_wp2_with (at_builtin; refine wpList_append_rows rfl (.tmp 5) (.tmp 6) 47 rfl 28 i0 _ 1 8 Try.underlying47 hi0 z0 s0 y0 rfl (by decide) (.slice (some ⟨W.heap.size, 0, none⟩) 0 0) 0 [] rfl ?ho (.slice (some ⟨g, 0, none⟩) n cl) n (l.map encU) rfl ?hs ?h1 ?hb1 ?hb2 ?_)
    case ho => exact ⟨rfl, .inr ⟨W.heap.size, 0, #[], rfl, Nat.zero_le _, heap_alloc_new W _, by simp⟩⟩
    case hs => exact srcRow_of_owns (h.alloc _)
    case h1 => first | (intro u hu; obtain ⟨k, _, rfl⟩ := List.mem_map.1 hu; rfl) | (simp [encU])
    case hb1 => omega
    case hb2 => omega
    intro v4 w4 own4 grow4 lab4
    obtain ⟨a4, k4, hv4⟩ := owns_form own4
    try rw [Nat.zero_add] at hv4
    subst hv4
    go_wp2_with fail
    go_ret
    refine ⟨_, _, rfl, by simpa using own4, fun k e => ?_, grown_own (World.grownBy_alloc W _ none) grow4 (Nat.le_refl _)⟩
    rcases lab4 k e with e1 | e1
    · simp [Value.ownBlock] at e1; omega
    · simp at e1; omega

set_option maxRecDepth 100000 in
theorem cloneA {W : World} {al : Option Addr} {n cl : Nat} {l : List Bool} (h : W.ownsRow 0 tAnsw 1 (.slice al n cl) n (l.map ansV)) (hn : n ≤ 20000000) :
    Calls Try.prog 60 #[.slice al n cl] W (Cloned tAnsw 1 (l.map ansV) n W) := by
  rcases h.2 with ⟨hv, _⟩ | ⟨g, cap, cur, hv, _, hg, _⟩
  · cases hv
    have hx : l.map ansV = [] := List.eq_nil_of_length_eq_zero (by simpa using h.1)
    have hnil := fun W => Lib.run_eql_slice_nil (P := Try.prog) W 65 118 none 0 0 0 0 Try.underlying65
    go_enter Try.func60, Try.ntmps60
    go_wp2_with fail
    go_ret
    exact ⟨_, _, rfl, by first | exact World.ownsRow_nil _ _ _ _ | (rw [hx]; exact World.ownsRow_nil _ _ _ _), fun k e => by simp [Value.ownBlock] at e, grown_refl _ _⟩
  · cases hv
    obtain ⟨i0, hi0, z0, s0, y0⟩ := info_parts infoAnsw
    have hnil := fun W => Lib.run_eql_slice_nil (P := Try.prog) W 65 118 (some ⟨g, 0, none⟩) n cl 0 0 Try.underlying65
    go_enter Try.func60, Try.ntmps60
    go_wp2_with (at_builtin; refine wpList_append_rows rfl (.tmp 5) (.tmp 6) 65 rfl 118 i0 _ 1 8 Try.underlying65 hi0 z0 s0 y0 rfl (by decide) (.slice (some ⟨W.heap.size, 0, none⟩) 0 0) 0 [] rfl ?ho (.slice (some ⟨g, 0, none⟩) n cl) n (l.map ansV) rfl ?hs ?h1 ?hb1 ?hb2 ?_)
    case ho => exact ⟨rfl, .inr ⟨W.heap.size, 0, #[], rfl, Nat.zero_le _, heap_alloc_new W _, by simp⟩⟩
    case hs => exact srcRow_of_owns (h.alloc _)
    case h1 => first | (intro u hu; obtain ⟨k, _, rfl⟩ := List.mem_map.1 hu; rfl) | (simp [ansV])
    case hb1 => omega
    case hb2 => omega
    intro v4 w4 own4 grow4 lab4
    obtain ⟨a4, k4, hv4⟩ := owns_form own4
    try rw [Nat.zero_add] at hv4
    subst hv4
    go_wp2_with fail
    go_ret
    refine ⟨_, _, rfl, by simpa using own4, fun k e => ?_, grown_own (World.grownBy_alloc W _ none) grow4 (Nat.le_refl _)⟩
    rcases lab4 k e with e1 | e1
    · simp [Value.ownBlock] at e1; omega
    · simp at e1; omega

end Go.Proofs.Ytmfdhcnnhlchbaa

namespace Go.Proofs.Ytmfdhcnnhlchbaa
open Go.RowKit Go.Maps Go.ChangeMaps

/-- 'm[k] op= v': the entry, then the store. -/
theorem MapIs.entry {α : Type} [DecidableEq α] {enc : α → Value} {P : Program} {kt : TypeId} {w : World} {b n : Nat} {f : α → Option Value} (hi : ∀ x y, enc x = enc y → x = y) {t e : TypeId} (h : MapIs P kt enc w b f n) (K : WideMaps.KeyLaw P kt) (ht : P.underlying t = some (.map kt e))
    {z : Value} (hz : ∀ u : World, (zeroValue e).run P u = .ok z u) (hn : n < maxLen) {key : α} {kl : Lit} (hkey : keyOf P kt (enc key) = some kl) :
    ∃ (st : Nat) (w1 : World), (Instr.mapEntry t (.map (some b)) (enc key)).run P w = .ok (.tuple #[(f key).getD z, .int .i64 st]) w1 ∧ MapIs P kt enc w1 b (putF f key ((f key).getD z)) (putN f key n) ∧ w.mapTurned w1 b ∧
      ∀ val, ∃ w2, (Instr.entryStore t (.map (some b)) (.int .i64 st) val).run P w1 = .ok () w2 ∧ MapIs P kt enc w2 b (putF f key val) (putN f key n) ∧ w.mapTurned w2 b := by
  obtain ⟨D, ⟨es, clock, hb, F, hs, hD⟩, h2, h3⟩ := id h
  obtain ⟨v0, st, es1, clock1, r1, _, r3⟩ := WideElems.entry_then_store K ht hz hb F hkey
  have hlook := h.look (Keyed.of_law K) ht (hz w) hkey
  have hlok := h.lookOk (Keyed.of_law K) ht (hz w) hkey
  have both : v0 = (f key).getD z ∧ MapIs P kt enc (setBlock w b (.map es1 clock1)) b (putF f key ((f key).getD z)) (putN f key n) := by
    rcases K.find w hkey es.toList F.keys with ⟨f1, _⟩ | ⟨j, e0, f1, f2, f3⟩
    · have hl : (Instr.lookup t (.map (some b)) (enc key) false).run P w = .ok z w := by simp [Instr.lookup, run_underlying ht, MapKept.run_getObj_map hb, K.check w _ hkey, f1, hz, Result.andThen]
      have hm : (Instr.mapEntry t (.map (some b)) (enc key)).run P w = .ok (.tuple #[z, goInt clock]) (setBlock w b (.map (es.push ⟨enc key, z, clock⟩) (clock + 1))) := by simp [Instr.mapEntry, run_underlying ht, MapKept.run_getObj_map hb, K.check w false hkey, f1, hz, MapKept.run_setObj_map _ hb, Result.andThen, setBlock]
      have hu : (Instr.mapUpdate t (.map (some b)) (enc key) z).run P w = .ok () (setBlock w b (.map (es.push ⟨enc key, z, clock⟩) (clock + 1))) := by simp [Instr.mapUpdate, run_underlying ht, MapKept.run_getObj_map hb, K.check w false hkey, f1, MapKept.run_setObj_map _ hb, Result.andThen, setBlock]
      obtain ⟨w', u1, u2, _⟩ := h.store hi (Keyed.of_law K) ht hn hkey z
      rw [hu] at u1
      cases u1
      rw [hlook] at hl
      injection hl with hl1
      rw [hm] at r1
      injection r1 with r4 r5
      simp at r4
      rw [← r5, hl1]
      exact ⟨r4.1.symm, u2⟩
    · have hj : es[j]? = some e0 := by simpa using f2
      have hl : (Instr.lookup t (.map (some b)) (enc key) true).run P w = .ok (.tuple #[e0.val, .bool true]) w := by simp [Instr.lookup, run_underlying ht, MapKept.run_getObj_map hb, K.check w _ hkey, f1, Result.andThen]
      have hsame : es.modify j (fun e => { e with key := enc key }) = es := by
        apply Array.ext'
        rw [Array.toList_modify, modify_eq_set _ _ _ _ f2]
        have : ({ e0 with key := enc key } : MapEntry) = e0 := by rw [← f3]
        rw [this]
        exact WideElems.set_self _ _ _ f2
      have hm : (Instr.mapEntry t (.map (some b)) (enc key)).run P w = .ok (.tuple #[e0.val, goInt e0.born]) (setBlock w b (.map es clock)) := by simp [Instr.mapEntry, run_underlying ht, MapKept.run_getObj_map hb, K.check w false hkey, f1, hj, f3, K.stays w hkey, hsame, MapKept.run_setObj_map _ hb, Result.andThen, setBlock]
      rw [hlok] at hl
      simp at hl
      obtain ⟨l1, l2⟩ := hl
      rw [hm] at r1
      injection r1 with r4 r5
      simp at r4
      refine ⟨by rw [l1]; exact r4.1.symm, ?_⟩
      rw [← r5]
      have e1 : (f key).isSome = true := by simpa using l2
      have e2 : f key = some e0.val := by
        cases hf : f key with
        | none => rw [hf] at e1; cases e1
        | some y => rw [hf] at l1; simp at l1; rw [l1]
      refine ((h.keep ((heap_setBlock_same hb _).trans hb.symm)).cong (fun k _ _ => ?_)).congN (by simp [putN, e2])
      unfold putF
      by_cases ek : k = key
      · subst ek; rw [if_pos rfl, e2]; rfl
      · rw [if_neg ek]
  refine ⟨st, setBlock w b (.map es1 clock1), by rw [← both.1]; exact r1, both.2, ⟨es, clock, es1, clock1, hb, rfl⟩, fun val => ?_⟩
  obtain ⟨es', clock', s1, s2⟩ := r3 (setBlock w b (.map es1 clock1)) val (heap_setBlock_same hb _)
  obtain ⟨w', u1, u2, u3⟩ := h.store hi (Keyed.of_law K) ht hn hkey val
  rw [s2] at u1
  cases u1
  refine ⟨_, s1, ?_, ⟨es, clock, es', clock', hb, by simp [setBlock]⟩⟩
  have e : setBlock (setBlock w b (.map es1 clock1)) b (.map es' clock') = setBlock w b (.map es' clock') := by simp [setBlock]
  rw [e]
  exact u2

theorem keyH {u c : Int} (h1 : -9223372036854775808 ≤ u) (h2 : u ≤ 9223372036854775807) (h3 : -9223372036854775808 ≤ c) (h4 : c ≤ 9223372036854775807) : ∃ kl, keyOf Try.prog tHold (encH (u, c)) = some kl := by
  have e1 : (Lit.int .i64 u).wf = true := by simp [Lit.wf, IntKind.min, IntKind.max, IntKind.bits, IntKind.signed]; omega
  have e2 : (Lit.int .i64 c).wf = true := by simp [Lit.wf, IntKind.min, IntKind.max, IntKind.bits, IntKind.signed]; omega
  have hkt : Try.prog.keyType tHold = true := by kernel_rfl
  have hc : Try.prog.cellsOf tHold = 2 := by kernel_rfl
  have hi : Try.prog.cellsOf 3 = 1 := by kernel_rfl
  have hsz : ∃ m, Try.prog.types.size = m + 1 := ⟨Try.prog.types.size - 1, by kernel_rfl⟩
  obtain ⟨m, hm⟩ := hsz
  refine ⟨.string (keyBytes [.int .i64 u, .int .i64 c]), ?_⟩
  unfold keyOf
  simp only [Try.underlying91]
  rw [if_pos (by simp [hkt, encH, Value.formed, Try.underlying91, hc]), hm]
  unfold Program.keyLits
  simp [encH, Try.underlying91, Value.cells, hc, hi, Program.keyLits, Try.underlying3, e1, e2]

end Go.Proofs.Ytmfdhcnnhlchbaa

namespace Go.Proofs.Ytmfdhcnnhlchbaa
open Go.RowKit Go.Maps

theorem fund_done {lab : Nat → Nat} {l : Nat} {w w' : World} {x : Nat} {pre post : List Value} {S S' : Ch} {K : Hd} {a : DAt} {B : Nat} (h : DevCh lab l w x pre post S K a B) (hl : l ≠ 0) (t : Turned x (some a.bf) none w w')
    (e1 : S'.hd = S.hd) (e2 : S'.nextSend = S.nextSend) (e3 : S'.heads = S.heads) (ff : Int × Int → Option Value) (nf : Nat)
    (hx : w'.heap[x]? = some (.cells (pre ++ dchCells S' K { a with ff := ff, nf := nf } ++ post).toArray tBr (0, 0))) (hM : MapIs Try.prog tHold encH w' a.bf ff nf) (hf : FundsOk ff S') (hn : nf ≤ B + 1) :
    DevTo lab l w x pre post S' K (B + 1) w' := by
  obtain ⟨⟨n1, n2, n3⟩, ⟨n4, n5⟩, n6⟩ := h.apart
  have g := h.good.mono (Nat.le_succ B)
  refine dev_build (a' := { a with ff := ff, nf := nf }) h hl t.os t.tape t.output t.size (t.keep (fun k e => by cases e; exact h.lmap.2.1) (fun k e => by cases e)) hx ⟨rfl, rfl, rfl, rfl⟩ ?_ hM ?_ ?_ ?_ ?_ ?_ ?_ ?_ ?_ ?_ ?_ ?_ ?_ hf ?_ (h.goodK.mono (Nat.le_succ B))
  · rw [e1]; exact t.map h.blk h.pend (by simp; exact n1) (by simp)
  · exact t.map h.blk h.kpk (by simp; exact fun e => n4 e.symm) (by simp)
  · exact t.map h.blk h.kan (by simp; exact fun e => n5 e.symm) (by simp)
  · exact t.row h.blk h.sent (by decide) (fun _ => map_ne_row h.fund h.sent) (fun _ _ => by simp)
  · exact fun k e _ => h.lsent k e
  · exact t.row h.blk h.gone (by decide) (fun _ => map_ne_row h.fund h.gone) (fun _ _ => by simp)
  · exact fun k e _ => h.lgone k e
  · exact t.row h.blk h.ans (by decide) (fun _ => map_ne_row h.fund h.ans) (fun _ _ => by simp)
  · exact fun k e _ => h.lans k e
  · exact t.row h.blk h.heads (by decide) (fun _ => map_ne_row h.fund h.heads) (fun _ _ => by simp)
  · exact fun k e _ => h.lheads k e
  · exact fun y hy => .inl hy
  · rw [e3]; exact h.hsS
  · obtain ⟨g1, g2, g3, g4, g6, g7, g8, g9, g10, g11, g12, g13, g14, g15, g16⟩ := g
    exact ⟨by rw [e1]; exact g1, by rw [e2]; exact g2, by rw [e1, e2]; exact g3, by rw [e2]; exact g4, by rw [e3]; exact g6, by rw [e3]; exact g7, g8, g9, g10, hn, by rw [e1]; exact g12, g13, g14, g15, g16⟩

theorem get_put {S : Ch} {i j : Nat} {v : Int} (hi : i < 6) (hj : j < 6) : (S.put i v).get j = if j = i then v else S.get j := by
  have e : i = 0 ∨ i = 1 ∨ i = 2 ∨ i = 3 ∨ i = 4 ∨ i = 5 := by omega
  have e' : j = 0 ∨ j = 1 ∨ j = 2 ∨ j = 3 ∨ j = 4 ∨ j = 5 := by omega
  rcases e with rfl | rfl | rfl | rfl | rfl | rfl <;> rcases e' with rfl | rfl | rfl | rfl | rfl | rfl <;> simp [Ch.put, Ch.get]

theorem hasAt_lt {u c : Int} (hu : 0 ≤ u ∧ u ≤ 2) (hc : 0 ≤ c ∧ c ≤ 1) : hasAt u c < 6 := by unfold hasAt; omega

theorem hasAt_inj {u c u' c' : Int} (hu : 0 ≤ u ∧ u ≤ 2) (hc : 0 ≤ c ∧ c ≤ 1) (hu' : 0 ≤ u' ∧ u' ≤ 2) (hc' : 0 ≤ c' ∧ c' ≤ 1) (h : hasAt u' c' = hasAt u c) : u' = u ∧ c' = c := by
  unfold hasAt at h
  omega

theorem funds_put {f g : Int × Int → Option Value} {S S' : Ch} {u c v : Int} (h : FundsOk f S) (hu : 0 ≤ u ∧ u ≤ 2) (hc : 0 ≤ c ∧ c ≤ 1) (hg : ∀ k, k ≠ (u, c) → g k = f k) (hv : (g (u, c)).getD (.int .u64 0) = .int .u64 v) (hS : ∀ j, S'.get j = (S.put (hasAt u c) v).get j) : FundsOk g S' := by
  intro u' c'
  by_cases e : (u', c') = (u, c)
  · cases e
    rw [hv, if_pos ⟨hu, hc⟩, hS, get_put (hasAt_lt hu hc) (hasAt_lt hu hc), if_pos rfl]
  · rw [hg _ e, h u' c']
    split
    · rename_i hr
      rw [hS, get_put (hasAt_lt hu hc) (hasAt_lt hr.1 hr.2), if_neg]
      exact fun e1 => e (by obtain ⟨e2, e3⟩ := hasAt_inj hu hc hr.1 hr.2 e1; rw [e2, e3])
    · rfl

set_option maxRecDepth 100000 in
set_option maxHeartbeats 800000 in
theorem give_any {lab : Nat → Nat} {l : Nat} {w : World} {x q : Nat} {pre post : List Value} {S : Ch} {K : Hd} {a : DAt} {B : Nat} (h : DevCh lab l w x pre post S K a B) (hl : l ≠ 0) (hq : pre.length = q) (hB : B ≤ 10000000) {u c n : Int} (hu : 0 ≤ u ∧ u ≤ 2) (hc : 0 ≤ c ∧ c ≤ 1) :
    Calls Try.prog 50 #[.pointer (some ⟨x, q, none⟩), .agg #[.int .i64 u, .int .i64 c], .int .u64 n] w fun e w' => e = .returned (.tuple #[]) ∧ DevTo lab l w x pre post (S.credit u c n) K (B + 1) w' := by
  have hxl : x < w.heap.size := blk_lt h.blk
  obtain ⟨kl, hkl⟩ := keyH (u := u) (c := c) (by omega) (by omega) (by omega) (by omega)
  obtain ⟨w1, hw1⟩ : ∃ w1 : World, w1 = w.alloc (.cells #[.int .i64 u, .int .i64 c] tHold) := ⟨_, rfl⟩
  have g1 : w.grownBy w1 none := by rw [hw1]; exact World.grownBy_alloc _ _ _
  have hX1 : w1.heap[w.heap.size]? = some (.cells #[.int .i64 u, .int .i64 c] tHold (0, 0)) := by rw [hw1]; exact heap_alloc_new w _
  have hB1 := (g1.block x hxl (by simp)).trans h.blk
  have hM1 : MapIs Try.prog tHold encH w1.drew a.bf a.ff a.nf := (h.fund.keep (g1.block _ h.fund.lt (by simp))).keep rfl
  have hlf := h.good.lf
  have hlook := hM1.look lawH Try.underlying70 (Try.zeroValue28 w1.drew) hkl
  rw [h.fok u c, if_pos ⟨hu, hc⟩] at hlook
  obtain ⟨st, w2, hent, hM2, ht2, hst0⟩ := hM1.entry encH_inj lawHk Try.underlying70 Try.zeroValue28 (by unfold maxLen; omega) hkl
  have hlook2 := hM2.look lawH Try.underlying70 (Try.zeroValue28 w2) hkl
  rw [h.fok u c, if_pos ⟨hu, hc⟩] at hent hlook2
  simp only [putF, if_true, Option.getD_some] at hlook2
  obtain ⟨G, hG⟩ : ∃ G, S.get (hasAt u c) = G := ⟨_, rfl⟩
  rw [hG] at hlook hlook2 hent
  have HG : Hid (S.get (hasAt u c) = G) := hG
  clear hG
  obtain ⟨w3, hst, hM3, ht3⟩ := hst0 (.int .u64 (IntKind.u64.wrap (G + n)))
  clear hst0
  simp only [encH] at hlook hent hlook2
  have hbx : a.bf ≠ x := map_ne_blk h.fund h.blk
  have hbX : w.heap.size ≠ a.bf := by have := h.fund.lt; omega
  have hB2 := (ht2.grown.block x (blk_lt hB1) (by simp; exact fun e => hbx e.symm)).trans hB1
  have hX2 := (ht2.grown.block w.heap.size (blk_lt hX1) (by simp; exact hbX)).trans hX1
  have hB3 := (ht3.grown.block x (blk_lt hB1) (by simp; exact fun e => hbx e.symm)).trans hB1
  have hX3 := (ht3.grown.block w.heap.size (blk_lt hX1) (by simp; exact hbX)).trans hX1
  obtain ⟨c0, c1, c2, c3, c4, c5, c6, c7, c8, c9, c10, c11, c12, c13, c14, c15, c16, c17, c18, c19, c20, c21, cf⟩ := dch_cells hB1 hq
  obtain ⟨x0, x1, xf⟩ : w1.cell? ⟨w.heap.size, 0, none⟩ = some (.int .i64 u) ∧ w1.cell? ⟨w.heap.size, 1, none⟩ = some (.int .i64 c) ∧ (∀ k, w1.frozen? ⟨w.heap.size, k, none⟩ = false) := ⟨by simp [World.cell?, hX1], by simp [World.cell?, hX1], blkq_free hX1⟩
  go_enter Try.func50, Try.ntmps50
  go_wp2_with fail
  rw [← hw1]
  clear hw1
  go_region
  clear c0 c1 c2 c3 c4 c5 c6 c7 c8 c9 c10 c11 c12 c13 c14 c15 c16 c17 c18 c19 c20 c21 cf x0 x1 xf hlook hlook2 hent hst
  obtain ⟨c0, c1, c2, c3, c4, c5, c6, c7, c8, c9, c10, c11, c12, c13, c14, c15, c16, c17, c18, c19, c20, c21, cf⟩ := dch_cells hB3 hq
  obtain ⟨x0, x1, xf⟩ : w3.cell? ⟨w.heap.size, 0, none⟩ = some (.int .i64 u) ∧ w3.cell? ⟨w.heap.size, 1, none⟩ = some (.int .i64 c) ∧ (∀ k, w3.frozen? ⟨w.heap.size, k, none⟩ = false) := ⟨by simp [World.cell?, hX3], by simp [World.cell?, hX3], blkq_free hX3⟩
  go_wp2_with fail
  have hcn : (c == S.n) = true ∨ (c == S.n) = false := by cases (c == S.n) <;> simp
  go_quiet (fail)
  have hnf : putN a.ff (u, c) a.nf ≤ B + 1 := by unfold putN; split <;> omega
  have hfo : ∀ S' : Ch, (∀ j, S'.get j = (S.put (hasAt u c) (IntKind.u64.wrap (G + n))).get j) → FundsOk (putF a.ff (u, c) (.int .u64 (IntKind.u64.wrap (G + n)))) S' := fun S' hS => funds_put h.fok hu hc (fun k hk => by simp [putF, hk]) (by simp [putF]) hS
  have ht : ∀ N v j, Turned x (some a.bf) none w ((w3.drewN N).setCell ⟨x, j, none⟩ v) := fun N v j => by
    have t1 : Turned x (some a.bf) none w w3 := (turned_n g1).trans (turned_drew (turned_m ht3.grown)) (fun k e => .inl e) (fun k e => .inl e)
    refine t1.trans (turned_x (grown_set (grown_drewN (grown_refl w3 _) N) _ _ (.inl rfl))) (fun k e => .inl e) (fun k e => .inl e)
  rcases hcn with hcn | hcn
  · go_wp2_with fail
    go_end0
    have e0 : c = S.n := by simpa using hcn
    refine ⟨rfl, fund_done h hl (ht _ _ _) rfl rfl rfl _ _ ?_ ?_ (hfo _ (fun j => ?_)) hnf⟩
    · have := blkq_set (w := w3.drewN nq) (by rw [drewN_heap]; exact hB3) hq 11 (by simp [dchCells]) (.int .u64 (IntKind.u64.wrap (S.locked - n)))
      simpa [dchCells, Ch.credit, Ch.put, e0] using this
    · exact hM3.keep (by rw [setCell_other _ _ _ hbx, drewN_heap])
    · rw [← HG.out]; rfl
  · go_wp2_with fail
    go_end0
    have e0 : ¬ c = S.n := by simpa using hcn
    refine ⟨rfl, fund_done h hl (ht _ _ _) rfl rfl rfl _ _ ?_ ?_ (hfo _ (fun j => ?_)) hnf⟩
    · have := blkq_set (w := w3.drewN nq) (by rw [drewN_heap]; exact hB3) hq 12 (by simp [dchCells]) (.int .u64 (IntKind.u64.wrap (S.about + n)))
      simpa [dchCells, Ch.credit, Ch.put, e0] using this
    · exact hM3.keep (by rw [setCell_other _ _ _ hbx, drewN_heap])
    · rw [← HG.out]; rfl

end Go.Proofs.Ytmfdhcnnhlchbaa
