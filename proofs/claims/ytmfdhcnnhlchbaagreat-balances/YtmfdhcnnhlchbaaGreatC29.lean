import Derived.Test.YtmfdhcnnhlchbaaGreatC28
import Derived.Lib.SliceRun
namespace Go.Proofs.YtmfdhcnnhlchbaaGreat
open Go.RowKit Go.Maps

theorem find_erase {l : List Pk} (h : l.Pairwise (fun p r => p.seq < r.seq)) (n k : Int) : ((l.eraseP fun p => p.seq == n).find? fun p => p.seq == k) = if k = n then none else l.find? fun p => p.seq == k := by
  induction l with
  | nil => simp
  | cons p r ih =>
    obtain ⟨h1, h2⟩ := List.pairwise_cons.1 h
    by_cases e : p.seq = n
    · rw [List.eraseP_cons_of_pos (by simpa using e)]
      by_cases e1 : k = n
      · rw [if_pos e1, List.find?_eq_none]
        intro s hs
        have := h1 s hs
        simp
        omega
      · rw [if_neg e1, List.find?_cons_of_neg (by simp; omega)]
    · rw [List.eraseP_cons_of_neg (by simpa using e)]
      by_cases e2 : p.seq = k
      · rw [List.find?_cons_of_pos (by simpa using e2), if_neg (by omega), List.find?_cons_of_pos (by simpa using e2)]
      · rw [List.find?_cons_of_neg (by simpa using e2), ih h2, List.find?_cons_of_neg (by simpa using e2)]

theorem pkF_erase {l : List Pk} (h : l.Pairwise (fun p r => p.seq < r.seq)) (n k : Int) : pkF (l.eraseP fun p => p.seq == n) k = delF (pkF l) n k := by
  unfold pkF delF
  rw [find_erase h]
  split <;> simp

theorem learnP_gone {f : Int → Option Value} {sent : List Pk} {gone : List Int} {n : Int} : learnP f sent (gone ++ [n]) = delF (learnP f sent gone) n := by
  unfold learnP
  rw [List.foldl_append]
  rfl

theorem gone_good {S : Ch} {a : DAt} {B : Nat} {n : Int} {p : Pk} (g : GoodCh S a B) (hp : S.hd.packets.find? (fun p => p.seq == n) = some p) (a4 : Option Addr) (k4 : Nat) : GoodCh (S.gone n) { a with gone := a.gone ++ [n], ag := a4, cg := k4 } (B + 1) := by
  obtain ⟨L, hL, hN⟩ := g.news
  have h0 := g.mono (Nat.le_succ B)
  have hpm := List.mem_of_find?_eq_some hp
  have hps : p.seq = n := by have := List.find?_some hp; simpa using this
  have sub : ∀ r ∈ (S.gone n).hd.packets, r ∈ S.hd.packets := fun r hr => List.mem_of_mem_eraseP hr
  refine ⟨⟨g.hd.recv, g.hd.ans, g.hd.seqs.sublist List.eraseP_sublist, fun r hr => h0.hd.pos r (sub r hr), fun r hr => g.hd.val r (sub r hr), ?_, ?_⟩, h0.send, fun r hr => g.below r (sub r hr), ?_, h0.heads, h0.lh, h0.ls, ?_, h0.lan, h0.lf, ⟨L, hL, ⟨?_, hN.a⟩⟩, g.told, h0.lens, h0.sseq, h0.hseq⟩
  · have h1 := g.hd.lp
    have h2 : (S.gone n).hd.packets.length ≤ S.hd.packets.length := List.length_eraseP_le
    omega
  · have := g.hd.la; simp [Ch.gone]; omega
  · intro k hk
    simp only [List.mem_append, List.mem_singleton] at hk
    rcases hk with hk | rfl
    · exact g.gone k hk
    · have h1 := g.below p hpm
      have h2 := (g.hd.pos p hpm).1
      simp only [Ch.gone]
      omega
  · have := g.lg; simp; omega
  · intro k
    show pkF (S.hd.packets.eraseP _) k = _
    rw [pkF_erase g.hd.seqs, learnP_gone]
    have : pkF S.hd.packets = learnP (pkF L.hd.packets) a.sent a.gone := funext hN.p
    rw [this]

theorem drop_done {lab : Nat → Nat} {l : Nat} {w w' : World} {x : Nat} {pre post : List Value} {S : Ch} {K : Hd} {a : DAt} {B : Nat} {n : Int} {p : Pk} (h : DevCh lab l w x pre post S K a B) (hl : l ≠ 0) (hp : S.hd.packets.find? (fun p => p.seq == n) = some p) (t : Turned x (some a.bp) a.vg.ownBlock w w')
    (a4 : Option Addr) (k4 : Nat) (hx : w'.heap[x]? = some (.cells (pre ++ dchCells (S.gone n) K { a with gone := a.gone ++ [n], ag := a4, cg := k4 } ++ post).toArray tBr (0, 0)))
    (hM : MapIs Tryz.prog tU64 encU w' a.bp (delF (pkF S.hd.packets) n) (delN (pkF S.hd.packets) n S.hd.packets.length))
    (hR : w'.ownsRow 0 tU64 1 (.slice a4 (a.gone.length + 1) k4) (a.gone.length + 1) (a.gone.map encU ++ [encU n])) (hf : ∀ k, (Value.slice a4 (a.gone.length + 1) k4).ownBlock = some k → k < w.heap.size → lab k = l) :
    DevTo lab l w x pre post (S.gone n) K (B + 1) w' := by
  obtain ⟨⟨n1, n2, n3⟩, ⟨n4, n5⟩, n6⟩ := h.apart
  refine dev_build (a' := { a with gone := a.gone ++ [n], ag := a4, cg := k4 }) h hl t.os t.tape t.output t.size (t.keep (fun k e => by cases e; exact h.lmap.1) (fun k e => h.lgone k e)) hx ⟨rfl, rfl, rfl, rfl⟩ ?_ ?_ ?_ ?_ ?_ ?_ ?_ ?_ ?_ ?_ ?_ ?_ ?_ ?_ ?_ (gone_good h.good hp a4 k4) (h.goodK.mono (Nat.le_succ B))
  · refine (hM.cong (fun k kl _ => ?_)).congN ?_
    · exact pkF_erase h.good.hd.seqs n k
    · have hps : p.seq = n := by have := List.find?_some hp; simpa using this
      have hsome : (pkF S.hd.packets n).isSome = true := by unfold pkF; rw [hp]; rfl
      simp only [delN, hsome, if_true, Ch.gone]
      rw [List.length_eraseP_of_mem (List.mem_of_find?_eq_some hp) (by simpa using hps)]
  · exact t.map h.blk h.fund (by simp; exact fun e => n1 e.symm) (map_ne_row h.fund h.gone)
  · exact t.map h.blk h.kpk (by simp; exact fun e => n2 e.symm) (map_ne_row h.kpk h.gone)
  · exact t.map h.blk h.kan (by simp; exact fun e => n3 e.symm) (map_ne_row h.kan h.gone)
  · exact t.row h.blk h.sent (by decide) (fun _ => map_ne_row h.pend h.sent) (row_apart h.sent h.gone (by decide))
  · exact fun k e _ => h.lsent k e
  · simpa [DAt.vg] using hR
  · intro k e; exact hf k (by simpa [DAt.vg] using e)
  · exact t.row h.blk h.ans (by decide) (fun _ => map_ne_row h.pend h.ans) (row_apart h.ans h.gone (by decide))
  · exact fun k e _ => h.lans k e
  · exact t.row h.blk h.heads (by decide) (fun _ => map_ne_row h.pend h.heads) (row_apart h.heads h.gone (by decide))
  · exact fun k e _ => h.lheads k e
  · exact fun y hy => .inl hy
  · exact h.hsS
  · exact h.fok

/-- An append that is not drawn, then the cell. -/
theorem Turned.app0 {x : Nat} {bm r : Option Nat} {w w3 w4 : World} {X : Obj} {ad : Addr} {v : Value} (t : Turned x bm r w w3) (g : (w3.alloc X).grownBy w4 r) (hx : ad.block = x) : Turned x bm r w (w4.setCell ad v) :=
  t.app (X := X) ⟨g.os, g.tape, g.output, g.size, g.block⟩ hx

theorem app_keep0 {w3 w4 : World} {X O : Obj} {b : Nat} {row : Option Nat} (hB3 : w3.heap[b]? = some O) (hg : (w3.alloc X).grownBy w4 row) (hne : some b ≠ row) : w4.heap[b]? = some O :=
  app_keep (X := X) hB3 ⟨hg.os, hg.tape, hg.output, hg.size, hg.block⟩ hne

theorem map_app0 {α : Type} {enc : α → Value} {P : Program} {kt : TypeId} {b n : Nat} {r : Option Nat} {w3 w4 : World} {f : α → Option Value} {X : Obj} {ad : Addr} {v : Value} (hm : MapIs P kt enc w3 b f n) (g : (w3.alloc X).grownBy w4 r) (h1 : b ≠ ad.block) (h2 : some b ≠ r) : MapIs P kt enc (w4.setCell ad v) b f n :=
  map_app (X := X) hm ⟨g.os, g.tape, g.output, g.size, g.block⟩ h1 h2

set_option maxRecDepth 100000 in
set_option maxHeartbeats 800000 in
theorem drop_any {lab : Nat → Nat} {l : Nat} {w : World} {x q : Nat} {pre post : List Value} {S : Ch} {K : Hd} {a : DAt} {B : Nat} {n : Int} {p : Pk} (h : DevCh lab l w x pre post S K a B) (hl : l ≠ 0) (hq : pre.length = q) (hB : B ≤ 10000000) (hp : S.hd.packets.find? (fun p => p.seq == n) = some p) :
    Calls Tryz.prog 88 #[.pointer (some ⟨x, q, none⟩), .int .u64 n] w fun e w' => e = .returned (.tuple #[]) ∧ DevTo lab l w x pre post (S.gone n) K (B + 1) w' := by
  obtain ⟨c0, c1, c2, c3, c4, c5, c6, c7, c8, c9, c10, c11, c12, c13, c14, c15, c16, c17, c18, c19, c20, c21, cf⟩ := dch_cells h.blk hq
  have hxl : x < w.heap.size := blk_lt h.blk
  have hps : p.seq = n := by have := List.find?_some hp; simpa using this
  have hpos := h.good.hd.pos p (List.mem_of_find?_eq_some hp)
  have hkey := keyU (k := n) (by omega) (by omega)
  have hbx : a.bp ≠ x := map_ne_blk h.pend h.blk
  go_enter Tryz.func88, Tryz.ntmps88
  go_wp2_with (at_delete; refine wpList_map_drop encU_inj rfl _ _ 83 rfl 28 lawU Tryz.underlying83 rfl h.pend n _ rfl hkey ?_)
  intro w2 hM2 ht2
  have hB2 := (ht2.grown.block x hxl (by simp; exact fun e => hbx e.symm)).trans h.blk
  have hP2 : w2.ownsRow 0 tU64 1 (.slice a.ag a.gone.length a.cg) a.gone.length (a.gone.map encU) := owns_keep h.gone fun k e => ht2.grown.block k (owns_lt h.gone e) (fun e1 => map_ne_row h.pend h.gone (by rw [e1] at e; exact e.symm))
  clear c0 c1 c2 c3 c4 c5 c6 c7 c8 c9 c10 c11 c12 c13 c14 c15 c16 c17 c18 c19 c20 c21 cf
  obtain ⟨c0, c1, c2, c3, c4, c5, c6, c7, c8, c9, c10, c11, c12, c13, c14, c15, c16, c17, c18, c19, c20, c21, cf⟩ := dch_cells hB2 hq
  obtain ⟨i0, hi0, z0, s0, y0⟩ := info_parts infoU64
  have hlg := h.good.lg
  have hnb : some x ≠ (Value.slice a.ag a.gone.length a.cg).ownBlock := owns_ne hB2 hP2 (by decide)
  have hxl2 : x < w2.heap.size := blk_lt hB2
  go_wp2_with (at_builtin; refine wpList_append_rows rfl (.tmp 14) (.tmp 16) 81 rfl 26 i0 _ 1 8 Tryz.underlying81 hi0 z0 s0 y0 rfl (by decide) (.slice a.ag a.gone.length a.cg) a.gone.length (a.gone.map encU) rfl ?ho (.slice (some ⟨w2.heap.size, 0, none⟩) 1 1) 1 [.int .u64 n] rfl ?hs ?h1 ?hb1 ?hb2 ?_)
  case ho => exact hP2.alloc _
  case hs => exact src_row [.int .u64 n] rfl
  case h1 => intro u hu; simp at hu; subst hu; rfl
  case hb1 => omega
  case hb2 => omega
  intro v4 w4 own4 grow4 lab4
  obtain ⟨a4, k4, hv4⟩ := owns_form own4
  subst hv4
  have hB4 := app_keep0 hB2 grow4 hnb
  clear c0 c1 c2 c3 c4 c5 c6 c7 c8 c9 c10 c11 c12 c13 c14 c15 c16 c17 c18 c19 c20 c21 cf
  obtain ⟨c0, c1, c2, c3, c4, c5, c6, c7, c8, c9, c10, c11, c12, c13, c14, c15, c16, c17, c18, c19, c20, c21, cf⟩ := dch_cells hB4 hq
  go_wp2_with fail
  go_end0
  refine ⟨rfl, drop_done h hl hp ?_ a4 k4 ?_ ?_ ?_ ?_⟩
  · exact Turned.app0 (turned_m ht2.grown) grow4 rfl
  · have := blkq_set hB4 hq 5 (by simp [dchCells]) (.slice a4 (a.gone.length + 1) k4)
    simpa [dchCells, Ch.gone, DAt.vs, DAt.vg, DAt.va, DAt.vh] using this
  · exact map_app0 hM2 grow4 hbx (map_ne_row h.pend h.gone)
  · exact owns_keep own4 fun k e => setCell_other _ _ _ (fun e1 => owns_ne hB4 own4 (by decide) (by rw [e, e1]))
  · exact lab_fresh h.lgone lab4 (by have := ht2.grown.size; simp at *; omega)

end Go.Proofs.YtmfdhcnnhlchbaaGreat

namespace Go.Proofs.YtmfdhcnnhlchbaaGreat
open Go.RowKit Go.Maps

def Ch.replied (S : Ch) (b : Bool) : Ch := { S with hd := { S.hd with nextRecv := IntKind.u64.wrap (S.hd.nextRecv + 1), answers := S.hd.answers ++ [(S.hd.nextRecv, b)] } }

theorem num_snoc : ∀ (l : List Bool) (n : Int) (b : Bool), num n (l ++ [b]) = num n l ++ [(n + l.length, b)]
  | [], n, b => by simp [num]
  | c :: l, n, b => by
    simp only [List.cons_append, num, num_snoc l (n + 1) b, List.length_cons]
    congr 3
    simp
    omega

theorem num_length : ∀ (l : List Bool) (n : Int), (num n l).length = l.length
  | [], _ => rfl
  | c :: l, n => by simp [num, num_length l]

theorem DevCh.head_good {lab : Nat → Nat} {l : Nat} {w : World} {x : Nat} {pre post : List Value} {S : Ch} {K : Hd} {a : DAt} {B : Nat} (h : DevCh lab l w x pre post S K a B) {y : HdN} (hy : y ∈ a.hs) : GoodHd y.hd B := by
  have : y.hd ∈ S.heads := by rw [← h.hsS]; exact List.mem_map.2 ⟨y, hy, rfl⟩
  obtain ⟨i, hi⟩ := List.getElem?_of_mem this
  exact (h.good.heads i _ hi).2

theorem replied_good {S : Ch} {a : DAt} {B : Nat} {b : Bool} (g : GoodCh S a B) (hB : B ≤ 10000000) (hgL : ∀ y ∈ a.hs, GoodHd y.hd B) (a4 : Option Addr) (k4 : Nat) : GoodCh (S.replied b) { a with ans := a.ans ++ [b], aa := a4, ca := k4 } (B + 1) := by
  obtain ⟨L, hL, hN⟩ := g.news
  have h0 := g.mono (Nat.le_succ B)
  have hr := g.hd.recv
  have hla := g.hd.la
  have hLr := (hgL L (List.mem_of_getLast? hL)).recv
  have hw : IntKind.u64.wrap (S.hd.nextRecv + 1) = S.hd.nextRecv + 1 := wrap_next (B := B) (by omega) (by omega) hB
  refine ⟨⟨?_, ?_, g.hd.seqs, h0.hd.pos, g.hd.val, h0.hd.lp, ?_⟩, h0.send, g.below, g.gone, h0.heads, h0.lh, h0.ls, h0.lg, ?_, h0.lf, ⟨L, hL, ⟨hN.p, ?_⟩⟩, g.told, h0.lens, h0.sseq, h0.hseq⟩
  · simp only [Ch.replied]
    rw [hw]
    simp
    omega
  · intro i y hy
    simp only [Ch.replied] at hy
    by_cases e : i < S.hd.answers.length
    · rw [List.getElem?_append_left e] at hy
      exact g.hd.ans i y hy
    · have hi : i < (S.hd.answers ++ [(S.hd.nextRecv, b)]).length := (List.getElem?_eq_some_iff.1 hy).1
      simp at hi
      obtain rfl : i = S.hd.answers.length := by omega
      simp at hy
      subst hy
      simp
      omega
  · simp [Ch.replied]; omega
  · have := g.lan; simp; omega
  · show S.hd.answers ++ [(S.hd.nextRecv, b)] = L.hd.answers ++ num L.hd.nextRecv (a.ans ++ [b])
    rw [num_snoc, hN.a, List.append_assoc]
    congr 3
    have : S.hd.answers.length = L.hd.answers.length + a.ans.length := by rw [hN.a, List.length_append, num_length]
    simp
    omega

theorem reply_done {lab : Nat → Nat} {l : Nat} {w w' : World} {x : Nat} {pre post : List Value} {S : Ch} {K : Hd} {a : DAt} {B : Nat} {b : Bool} (h : DevCh lab l w x pre post S K a B) (hl : l ≠ 0) (hB : B ≤ 10000000) (t : Turned x none a.va.ownBlock w w')
    (a4 : Option Addr) (k4 : Nat) (hx : w'.heap[x]? = some (.cells (pre ++ dchCells (S.replied b) K { a with ans := a.ans ++ [b], aa := a4, ca := k4 } ++ post).toArray tBr (0, 0)))
    (hR : w'.ownsRow 0 tAnsw 1 (.slice a4 (a.ans.length + 1) k4) (a.ans.length + 1) (a.ans.map ansV ++ [ansV b])) (hf : ∀ k, (Value.slice a4 (a.ans.length + 1) k4).ownBlock = some k → k < w.heap.size → lab k = l) :
    DevTo lab l w x pre post (S.replied b) K (B + 1) w' := by
  refine dev_build (a' := { a with ans := a.ans ++ [b], aa := a4, ca := k4 }) h hl t.os t.tape t.output t.size (t.keep (fun k e => by cases e) (fun k e => h.lans k e)) hx ⟨rfl, rfl, rfl, rfl⟩ ?_ ?_ ?_ ?_ ?_ ?_ ?_ ?_ ?_ ?_ ?_ ?_ ?_ ?_ ?_ (replied_good h.good hB (fun y hy => h.head_good hy) a4 k4) (h.goodK.mono (Nat.le_succ B))
  · exact t.map h.blk h.pend (by simp) (map_ne_row h.pend h.ans)
  · exact t.map h.blk h.fund (by simp) (map_ne_row h.fund h.ans)
  · exact t.map h.blk h.kpk (by simp) (map_ne_row h.kpk h.ans)
  · exact t.map h.blk h.kan (by simp) (map_ne_row h.kan h.ans)
  · exact t.row h.blk h.sent (by decide) (fun e => absurd rfl e) (row_apart h.sent h.ans (by decide))
  · exact fun k e _ => h.lsent k e
  · exact t.row h.blk h.gone (by decide) (fun e => absurd rfl e) (row_apart h.gone h.ans (by decide))
  · exact fun k e _ => h.lgone k e
  · simpa [DAt.va] using hR
  · intro k e; exact hf k (by simpa [DAt.va] using e)
  · exact t.row h.blk h.heads (by decide) (fun e => absurd rfl e) (row_apart h.heads h.ans (by decide))
  · exact fun k e _ => h.lheads k e
  · exact fun y hy => .inl hy
  · exact h.hsS
  · exact h.fok

theorem infoAnsw : (Tryz.prog.info? 161).map (fun i => (i.zero, i.size, i.bytes)) = some (some (.int .i64 0), 1, 8) := by kernel_rfl

set_option maxRecDepth 100000 in
set_option maxHeartbeats 800000 in
theorem reply_any {lab : Nat → Nat} {l : Nat} {w : World} {x q : Nat} {pre post : List Value} {S : Ch} {K : Hd} {a : DAt} {B : Nat} (h : DevCh lab l w x pre post S K a B) (hl : l ≠ 0) (hq : pre.length = q) (hB : B ≤ 10000000) (b : Bool) (n : Int) (hn : n = if b then 1 else 2) :
    Calls Tryz.prog 85 #[.pointer (some ⟨x, q, none⟩), .int .i64 n] w fun e w' => e = .returned (.tuple #[]) ∧ DevTo lab l w x pre post (S.replied b) K (B + 1) w' := by
  have hbv : Hid (ansV b = .int .i64 n) := by rw [hn]; rfl
  clear hn
  obtain ⟨c0, c1, c2, c3, c4, c5, c6, c7, c8, c9, c10, c11, c12, c13, c14, c15, c16, c17, c18, c19, c20, c21, cf⟩ := dch_cells h.blk hq
  have hxl : x < w.heap.size := blk_lt h.blk
  obtain ⟨i0, hi0, z0, s0, y0⟩ := info_parts infoAnsw
  have hlg := h.good.lan
  have g1 : w.grownBy (w.setCell ⟨x, q + 2, none⟩ (.int .u64 (IntKind.u64.wrap (S.hd.nextRecv + 1)))) (some x) := grown_set (grown_refl w _) _ _ (.inl rfl)
  have hB2 : (w.setCell ⟨x, q + 2, none⟩ (.int .u64 (IntKind.u64.wrap (S.hd.nextRecv + 1)))).heap[x]? = some (.cells (pre ++ dchCells { S with hd := { S.hd with nextRecv := IntKind.u64.wrap (S.hd.nextRecv + 1) } } K a ++ post).toArray tBr (0, 0)) := blkq_set h.blk hq 2 (by simp [dchCells]) _
  have hP2 : (w.setCell ⟨x, q + 2, none⟩ (.int .u64 (IntKind.u64.wrap (S.hd.nextRecv + 1)))).ownsRow 0 tAnsw 1 (.slice a.aa a.ans.length a.ca) a.ans.length (a.ans.map ansV) := owns_keep h.ans fun k e => g1.block k (owns_lt h.ans e) (fun e1 => owns_ne h.blk h.ans (by decide) (by rw [e, e1]))
  go_enter Tryz.func85, Tryz.ntmps85
  go_wp2_with (at_builtin; refine wpList_append_rows rfl (.tmp 16) (.tmp 18) 84 rfl 161 i0 _ 1 8 Tryz.underlying84 hi0 z0 s0 y0 rfl (by decide) (.slice a.aa a.ans.length a.ca) a.ans.length (a.ans.map ansV) rfl ?ho (.slice (some ⟨w.heap.size, 0, none⟩) 1 1) 1 [.int .i64 n] rfl ?hs ?h1 ?hb1 ?hb2 ?_)
  case ho => exact hP2.alloc _
  case hs =>
    have := @src_row (w.setCell ⟨x, q + 2, none⟩ (.int .u64 (IntKind.u64.wrap (S.hd.nextRecv + 1)))) 161 1 [.int .i64 n] rfl
    rw [setCell_size] at this
    exact this
  case h1 => first | rfl | (intro u hu; simp at hu; subst hu; rfl)
  case hb1 => omega
  case hb2 => omega
  intro v4 w4 own4 grow4 lab4
  obtain ⟨a4, k4, hv4⟩ := owns_form own4
  subst hv4
  have hnb : some x ≠ (Value.slice a.aa a.ans.length a.ca).ownBlock := owns_ne hB2 hP2 (by decide)
  have hB4 := app_keep0 hB2 grow4 hnb
  clear c0 c1 c2 c3 c4 c5 c6 c7 c8 c9 c10 c11 c12 c13 c14 c15 c16 c17 c18 c19 c20 c21 cf
  obtain ⟨c0, c1, c2, c3, c4, c5, c6, c7, c8, c9, c10, c11, c12, c13, c14, c15, c16, c17, c18, c19, c20, c21, cf⟩ := dch_cells hB4 hq
  go_wp2_with fail
  go_end0
  refine ⟨rfl, reply_done h hl hB ?_ a4 k4 ?_ ?_ ?_⟩
  · exact Turned.app0 (turned_x g1) grow4 rfl
  · have := blkq_set hB4 hq 6 (by simp [dchCells]) (.slice a4 (a.ans.length + 1) k4)
    simpa [dchCells, Ch.replied, DAt.vs, DAt.vg, DAt.va, DAt.vh] using this
  · rw [hbv.out]
    exact owns_keep own4 fun k e => setCell_other _ _ _ (fun e1 => owns_ne hB4 own4 (by decide) (by rw [e, e1]))
  · exact lab_fresh h.lans lab4 (by simp)

end Go.Proofs.YtmfdhcnnhlchbaaGreat

namespace Go.Proofs.YtmfdhcnnhlchbaaGreat
open Go.RowKit Go.Maps

/-- What a copy of a row has left. -/
def Cloned (t size : Nat) (xs : List Value) (n : Nat) (W : World) (e : Ending) (w' : World) : Prop :=
  ∃ al cl, e = .returned (.slice al n cl) ∧ w'.ownsRow 0 t size (.slice al n cl) n xs ∧ (∀ k, (Value.slice al n cl).ownBlock = some k → W.heap.size ≤ k) ∧ W.grownBy w' none

theorem grown_own {w w1 w2 : World} {k : Nat} (h : w.grownBy w1 none) (g : w1.grownBy w2 (some k)) (hk : w.heap.size ≤ k) : w.grownBy w2 none := grown_trans h g (fun j e => .inr (by cases e; exact hk))

set_option maxRecDepth 100000 in
theorem clonePk {W : World} {al : Option Addr} {n cl : Nat} {l : List Pk} (h : W.ownsRow 0 tPk 7 (.slice al n cl) n (l.flatMap Pk.cells)) (hn : n ≤ 20000000) :
    Calls Tryz.prog 76 #[.slice al n cl] W (Cloned tPk 7 (l.flatMap Pk.cells) n W) := by
  rcases h.2 with ⟨hv, _⟩ | ⟨g, cap, cur, hv, _, hg, _⟩
  · cases hv
    have hx : l.flatMap Pk.cells = [] := List.eq_nil_of_length_eq_zero (by simpa using h.1)
    have hnil := fun W => Lib.run_eql_slice_nil (P := Tryz.prog) W 57 28 none 0 0 0 0 Tryz.underlying57
    go_enter Tryz.func76, Tryz.ntmps76
    go_wp2_with fail
    go_ret
    exact ⟨_, _, rfl, by first | exact World.ownsRow_nil _ _ _ _ | (rw [hx]; exact World.ownsRow_nil _ _ _ _), fun k e => by simp [Value.ownBlock] at e, grown_refl _ _⟩
  · cases hv
    obtain ⟨i0, hi0, z0, s0, y0⟩ := info_parts infoPk
    have hnil := fun W => Lib.run_eql_slice_nil (P := Tryz.prog) W 57 28 (some ⟨g, 0, none⟩) n cl 0 0 Tryz.underlying57
    go_enter Tryz.func76, Tryz.ntmps76
    go_wp2_with (at_builtin; refine wpList_append_rows rfl (.tmp 5) (.tmp 6) 57 rfl 28 i0 _ 7 56 Tryz.underlying57 hi0 z0 s0 y0 rfl (by decide) (.slice (some ⟨W.heap.size, 0, none⟩) 0 0) 0 [] rfl ?ho (.slice (some ⟨g, 0, none⟩) n cl) n (l.flatMap Pk.cells) rfl ?hs ?h1 ?hb1 ?hb2 ?_)
    case ho => exact ⟨rfl, .inr ⟨W.heap.size, 0, #[], rfl, Nat.zero_le _, heap_alloc_new W _, by simp⟩⟩
    case hs => exact srcRow_of_owns (h.alloc _)
    case h1 => exact pks_one l
    case hb1 => omega
    case hb2 => omega
    intro v4 w4 own4 grow4 lab4
    obtain ⟨a4, k4, hv4⟩ := owns_form own4
    try rw [Nat.zero_add] at hv4
    subst hv4
    go_wp2_with fail
    go_ret
    refine ⟨_, _, rfl, by simpa using own4, fun k e => ?_, grown_own (World.grownBy_alloc W _ none) grow4 (Nat.le_refl _)⟩
    rcases lab4 k e with e1 | e1
    · simp [Value.ownBlock] at e1; omega
    · simp at e1; omega

set_option maxRecDepth 100000 in
theorem cloneU {W : World} {al : Option Addr} {n cl : Nat} {l : List Int} (h : W.ownsRow 0 tU64 1 (.slice al n cl) n (l.map encU)) (hn : n ≤ 20000000) :
    Calls Tryz.prog 77 #[.slice al n cl] W (Cloned tU64 1 (l.map encU) n W) := by
  rcases h.2 with ⟨hv, _⟩ | ⟨g, cap, cur, hv, _, hg, _⟩
  · cases hv
    have hx : l.map encU = [] := List.eq_nil_of_length_eq_zero (by simpa using h.1)
    have hnil := fun W => Lib.run_eql_slice_nil (P := Tryz.prog) W 81 26 none 0 0 0 0 Tryz.underlying81
    go_enter Tryz.func77, Tryz.ntmps77
    go_wp2_with fail
    go_ret
    exact ⟨_, _, rfl, by first | exact World.ownsRow_nil _ _ _ _ | (rw [hx]; exact World.ownsRow_nil _ _ _ _), fun k e => by simp [Value.ownBlock] at e, grown_refl _ _⟩
  · cases hv
    obtain ⟨i0, hi0, z0, s0, y0⟩ := info_parts infoU64
    have hnil := fun W => Lib.run_eql_slice_nil (P := Tryz.prog) W 81 26 (some ⟨g, 0, none⟩) n cl 0 0 Tryz.underlying81
    go_enter Tryz.func77, Tryz.ntmps77
    go_wp2_with (at_builtin; refine wpList_append_rows rfl (.tmp 5) (.tmp 6) 81 rfl 26 i0 _ 1 8 Tryz.underlying81 hi0 z0 s0 y0 rfl (by decide) (.slice (some ⟨W.heap.size, 0, none⟩) 0 0) 0 [] rfl ?ho (.slice (some ⟨g, 0, none⟩) n cl) n (l.map encU) rfl ?hs ?h1 ?hb1 ?hb2 ?_)
    case ho => exact ⟨rfl, .inr ⟨W.heap.size, 0, #[], rfl, Nat.zero_le _, heap_alloc_new W _, by simp⟩⟩
    case hs => exact srcRow_of_owns (h.alloc _)
    case h1 => first | (intro u hu; obtain ⟨k, _, rfl⟩ := List.mem_map.1 hu; rfl) | (simp [encU])
    case hb1 => omega
    case hb2 => omega
    intro v4 w4 own4 grow4 lab4
    obtain ⟨a4, k4, hv4⟩ := owns_form own4
    try rw [Nat.zero_add] at hv4
    subst hv4
    go_wp2_with fail
    go_ret
    refine ⟨_, _, rfl, by simpa using own4, fun k e => ?_, grown_own (World.grownBy_alloc W _ none) grow4 (Nat.le_refl _)⟩
    rcases lab4 k e with e1 | e1
    · simp [Value.ownBlock] at e1; omega
    · simp at e1; omega

set_option maxRecDepth 100000 in
theorem cloneA {W : World} {al : Option Addr} {n cl : Nat} {l : List Bool} (h : W.ownsRow 0 tAnsw 1 (.slice al n cl) n (l.map ansV)) (hn : n ≤ 20000000) :
    Calls Tryz.prog 78 #[.slice al n cl] W (Cloned tAnsw 1 (l.map ansV) n W) := by
  rcases h.2 with ⟨hv, _⟩ | ⟨g, cap, cur, hv, _, hg, _⟩
  · cases hv
    have hx : l.map ansV = [] := List.eq_nil_of_length_eq_zero (by simpa using h.1)
    have hnil := fun W => Lib.run_eql_slice_nil (P := Tryz.prog) W 84 161 none 0 0 0 0 Tryz.underlying84
    go_enter Tryz.func78, Tryz.ntmps78
    go_wp2_with fail
    go_ret
    exact ⟨_, _, rfl, by first | exact World.ownsRow_nil _ _ _ _ | (rw [hx]; exact World.ownsRow_nil _ _ _ _), fun k e => by simp [Value.ownBlock] at e, grown_refl _ _⟩
  · cases hv
    obtain ⟨i0, hi0, z0, s0, y0⟩ := info_parts infoAnsw
    have hnil := fun W => Lib.run_eql_slice_nil (P := Tryz.prog) W 84 161 (some ⟨g, 0, none⟩) n cl 0 0 Tryz.underlying84
    go_enter Tryz.func78, Tryz.ntmps78
    go_wp2_with (at_builtin; refine wpList_append_rows rfl (.tmp 5) (.tmp 6) 84 rfl 161 i0 _ 1 8 Tryz.underlying84 hi0 z0 s0 y0 rfl (by decide) (.slice (some ⟨W.heap.size, 0, none⟩) 0 0) 0 [] rfl ?ho (.slice (some ⟨g, 0, none⟩) n cl) n (l.map ansV) rfl ?hs ?h1 ?hb1 ?hb2 ?_)
    case ho => exact ⟨rfl, .inr ⟨W.heap.size, 0, #[], rfl, Nat.zero_le _, heap_alloc_new W _, by simp⟩⟩
    case hs => exact srcRow_of_owns (h.alloc _)
    case h1 => first | (intro u hu; obtain ⟨k, _, rfl⟩ := List.mem_map.1 hu; rfl) | (simp [ansV])
    case hb1 => omega
    case hb2 => omega
    intro v4 w4 own4 grow4 lab4
    obtain ⟨a4, k4, hv4⟩ := owns_form own4
    try rw [Nat.zero_add] at hv4
    subst hv4
    go_wp2_with fail
    go_ret
    refine ⟨_, _, rfl, by simpa using own4, fun k e => ?_, grown_own (World.grownBy_alloc W _ none) grow4 (Nat.le_refl _)⟩
    rcases lab4 k e with e1 | e1
    · simp [Value.ownBlock] at e1; omega
    · simp at e1; omega

end Go.Proofs.YtmfdhcnnhlchbaaGreat

namespace Go.Proofs.YtmfdhcnnhlchbaaGreat
open Go.RowKit Go.Maps Go.ChangeMaps

/-- 'm[k] op= v': the entry, then the store. -/
theorem MapIs.entry {α : Type} [DecidableEq α] {enc : α → Value} {P : Program} {kt : TypeId} {w : World} {b n : Nat} {f : α → Option Value} (hi : ∀ x y, enc x = enc y → x = y) {t e : TypeId} (h : MapIs P kt enc w b f n) (K : WideMaps.KeyLaw P kt) (ht : P.underlying t = some (.map kt e))
    {z : Value} (hz : ∀ u : World, (zeroValue e).run P u = .ok z u) (hn : n < maxLen) {key : α} {kl : Lit} (hkey : keyOf P kt (enc key) = some kl) :
    ∃ (st : Nat) (w1 : World), (Instr.mapEntry t (.map (some b)) (enc key)).run P w = .ok (.tuple #[(f key).getD z, .int .i64 st]) w1 ∧ MapIs P kt enc w1 b (putF f key ((f key).getD z)) (putN f key n) ∧ w.mapTurned w1 b ∧
      ∀ val, ∃ w2, (Instr.entryStore t (.map (some b)) (.int .i64 st) val).run P w1 = .ok () w2 ∧ MapIs P kt enc w2 b (putF f key val) (putN f key n) ∧ w.mapTurned w2 b := by
  obtain ⟨D, ⟨es, clock, hb, F, hs, hD⟩, h2, h3⟩ := id h
  obtain ⟨v0, st, es1, clock1, r1, _, r3⟩ := WideElems.entry_then_store K ht hz hb F hkey
  have hlook := h.look (Keyed.of_law K) ht (hz w) hkey
  have hlok := h.lookOk (Keyed.of_law K) ht (hz w) hkey
  have both : v0 = (f key).getD z ∧ MapIs P kt enc (setBlock w b (.map es1 clock1)) b (putF f key ((f key).getD z)) (putN f key n) := by
    rcases K.find w hkey es.toList F.keys with ⟨f1, _⟩ | ⟨j, e0, f1, f2, f3⟩
    · have hl : (Instr.lookup t (.map (some b)) (enc key) false).run P w = .ok z w := by simp [Instr.lookup, run_underlying ht, MapKept.run_getObj_map hb, K.check w _ hkey, f1, hz, Result.andThen]
      have hm : (Instr.mapEntry t (.map (some b)) (enc key)).run P w = .ok (.tuple #[z, goInt clock]) (setBlock w b (.map (es.push ⟨enc key, z, clock⟩) (clock + 1))) := by simp [Instr.mapEntry, run_underlying ht, MapKept.run_getObj_map hb, K.check w false hkey, f1, hz, MapKept.run_setObj_map _ hb, Result.andThen, setBlock]
      have hu : (Instr.mapUpdate t (.map (some b)) (enc key) z).run P w = .ok () (setBlock w b (.map (es.push ⟨enc key, z, clock⟩) (clock + 1))) := by simp [Instr.mapUpdate, run_underlying ht, MapKept.run_getObj_map hb, K.check w false hkey, f1, MapKept.run_setObj_map _ hb, Result.andThen, setBlock]
      obtain ⟨w', u1, u2, _⟩ := h.store hi (Keyed.of_law K) ht hn hkey z
      rw [hu] at u1
      cases u1
      rw [hlook] at hl
      injection hl with hl1
      rw [hm] at r1
      injection r1 with r4 r5
      simp at r4
      rw [← r5, hl1]
      exact ⟨r4.1.symm, u2⟩
    · have hj : es[j]? = some e0 := by simpa using f2
      have hl : (Instr.lookup t (.map (some b)) (enc key) true).run P w = .ok (.tuple #[e0.val, .bool true]) w := by simp [Instr.lookup, run_underlying ht, MapKept.run_getObj_map hb, K.check w _ hkey, f1, Result.andThen]
      have hsame : es.modify j (fun e => { e with key := enc key }) = es := by
        apply Array.ext'
        rw [Array.toList_modify, modify_eq_set _ _ _ _ f2]
        have : ({ e0 with key := enc key } : MapEntry) = e0 := by rw [← f3]
        rw [this]
        exact WideElems.set_self _ _ _ f2
      have hm : (Instr.mapEntry t (.map (some b)) (enc key)).run P w = .ok (.tuple #[e0.val, goInt e0.born]) (setBlock w b (.map es clock)) := by simp [Instr.mapEntry, run_underlying ht, MapKept.run_getObj_map hb, K.check w false hkey, f1, hj, f3, K.stays w hkey, hsame, MapKept.run_setObj_map _ hb, Result.andThen, setBlock]
      rw [hlok] at hl
      simp at hl
      obtain ⟨l1, l2⟩ := hl
      rw [hm] at r1
      injection r1 with r4 r5
      simp at r4
      refine ⟨by rw [l1]; exact r4.1.symm, ?_⟩
      rw [← r5]
      have e1 : (f key).isSome = true := by simpa using l2
      have e2 : f key = some e0.val := by
        cases hf : f key with
        | none => rw [hf] at e1; cases e1
        | some y => rw [hf] at l1; simp at l1; rw [l1]
      refine ((h.keep ((heap_setBlock_same hb _).trans hb.symm)).cong (fun k _ _ => ?_)).congN (by simp [putN, e2])
      unfold putF
      by_cases ek : k = key
      · subst ek; rw [if_pos rfl, e2]; rfl
      · rw [if_neg ek]
  refine ⟨st, setBlock w b (.map es1 clock1), by rw [← both.1]; exact r1, both.2, ⟨es, clock, es1, clock1, hb, rfl⟩, fun val => ?_⟩
  obtain ⟨es', clock', s1, s2⟩ := r3 (setBlock w b (.map es1 clock1)) val (heap_setBlock_same hb _)
  obtain ⟨w', u1, u2, u3⟩ := h.store hi (Keyed.of_law K) ht hn hkey val
  rw [s2] at u1
  cases u1
  refine ⟨_, s1, ?_, ⟨es, clock, es', clock', hb, by simp [setBlock]⟩⟩
  have e : setBlock (setBlock w b (.map es1 clock1)) b (.map es' clock') = setBlock w b (.map es' clock') := by simp [setBlock]
  rw [e]
  exact u2

theorem keyH {u c : Int} (h1 : -9223372036854775808 ≤ u) (h2 : u ≤ 9223372036854775807) (h3 : -9223372036854775808 ≤ c) (h4 : c ≤ 9223372036854775807) : ∃ kl, keyOf Tryz.prog tHold (encH (u, c)) = some kl := by
  have e1 : (Lit.int .i64 u).wf = true := by simp [Lit.wf, IntKind.min, IntKind.max, IntKind.bits, IntKind.signed]; omega
  have e2 : (Lit.int .i64 c).wf = true := by simp [Lit.wf, IntKind.min, IntKind.max, IntKind.bits, IntKind.signed]; omega
  have hkt : Tryz.prog.keyType tHold = true := by kernel_rfl
  have hc : Tryz.prog.cellsOf tHold = 2 := by kernel_rfl
  have hi : Tryz.prog.cellsOf 3 = 1 := by kernel_rfl
  have hsz : ∃ m, Tryz.prog.types.size = m + 1 := ⟨Tryz.prog.types.size - 1, by kernel_rfl⟩
  obtain ⟨m, hm⟩ := hsz
  refine ⟨.string (keyBytes [.int .i64 u, .int .i64 c]), ?_⟩
  unfold keyOf
  simp only [Tryz.underlying121]
  rw [if_pos (by simp [hkt, encH, Value.formed, Tryz.underlying121, hc]), hm]
  unfold Program.keyLits
  simp [encH, Tryz.underlying121, Value.cells, hc, hi, Program.keyLits, Tryz.underlying3, e1, e2]

end Go.Proofs.YtmfdhcnnhlchbaaGreat
