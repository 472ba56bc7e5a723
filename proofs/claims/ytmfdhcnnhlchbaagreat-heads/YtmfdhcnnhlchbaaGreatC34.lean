import Derived.Test.YtmfdhcnnhlchbaaGreatC33
namespace Go.Proofs.YtmfdhcnnhlchbaaGreat
open Go.RowKit Go.Maps

section
variable {lab : Nat → Nat} {l : Nat} {w : World} {x q : Nat} {pre post : List Value} {S : Ch} {K : Hd} {a : DAt} {B : Nat}

/-- Element i of a row of packets. -/
theorem pk_at {w : World} {g n cap i : Nat} {ps : List Pk} {p : Pk} (h : w.ownsRow 0 tPk 7 (.slice (some ⟨g, 0, none⟩) n cap) n (ps.flatMap Pk.cells)) (hi : ps[i]? = some p) :
    w.cell? ⟨g, i * 7, none⟩ = some (.int .u64 p.seq) ∧ w.cell? ⟨g, i * 7 + 1, none⟩ = some (.int .i64 p.src) ∧ w.cell? ⟨g, i * 7 + 2, none⟩ = some (.int .i64 p.dst) ∧ w.cell? ⟨g, i * 7 + 3, none⟩ = some (.int .i64 p.coin) ∧
    w.cell? ⟨g, i * 7 + 4, none⟩ = some (.int .u64 p.amount) ∧ w.cell? ⟨g, i * 7 + 5, none⟩ = some (.int .u64 p.height) ∧ w.cell? ⟨g, i * 7 + 6, none⟩ = some (.int .u64 p.time) := by
  have hc := h.cells (g := g) rfl
  have key : ∀ (hs : List Pk) (i j : Nat), hs[i]? = some p → j < 7 → (hs.flatMap Pk.cells)[i * 7 + j]? = p.cells[j]? := by
    intro hs
    induction hs with
    | nil => intro i j hi; simp at hi
    | cons x r ih =>
      intro i j hi hj
      have hl : x.cells.length = 7 := rfl
      cases i with
      | zero =>
        simp at hi
        subst hi
        simp only [List.flatMap_cons, Nat.zero_mul, Nat.zero_add]
        rw [List.getElem?_append_left (by omega)]
      | succ i =>
        simp only [List.getElem?_cons_succ] at hi
        simp only [List.flatMap_cons]
        rw [List.getElem?_append_right (by omega), hl, show (i + 1) * 7 + j - 7 = i * 7 + j from by omega]
        exact ih i j hi hj
  have get : ∀ j v, p.cells[j]? = some v → w.cell? ⟨g, i * 7 + j, none⟩ = some v := by
    intro j v hv
    have hj : j < 7 := by have := (List.getElem?_eq_some_iff.1 hv).1; simpa [Pk.cells] using this
    have := hc (i * 7 + j) v (by rw [key ps i j hi hj]; exact hv)
    rw [Addr.add_lit] at this
    simpa using this
  exact ⟨get 0 _ rfl, get 1 _ rfl, get 2 _ rfl, get 3 _ rfl, get 4 _ rfl, get 5 _ rfl, get 6 _ rfl⟩

theorem row_some {w : World} {e size n cl k : Nat} {al : Option Addr} {xs : List Value} (h : w.ownsRow 0 e size (.slice al n cl) n xs) (hk : k < n) : ∃ g, al = some ⟨g, 0, none⟩ := by
  rcases h.2 with ⟨hv, hn⟩ | ⟨g, cap, cur, hv, _⟩
  · omega
  · cases hv
    exact ⟨g, rfl⟩

/-- What the first k of the packets that were sent make of it. -/
def sentF (f : Int → Option Value) (sent : List Pk) : Int → Option Value := sent.foldl (fun g p => putF g p.seq p.agg) f

theorem sentF_snoc {f : Int → Option Value} {sent : List Pk} {k : Nat} {p : Pk} (hp : sent[k]? = some p) : sentF f (sent.take (k + 1)) = putF (sentF f (sent.take k)) p.seq p.agg := by
  unfold sentF
  rw [List.take_add_one, List.foldl_append, hp]
  rfl

theorem goneF_snoc {f : Int → Option Value} {gone : List Int} {k : Nat} {j : Int} (hj : gone[k]? = some j) : (gone.take (k + 1)).foldl delF f = delF ((gone.take k).foldl delF f) j := by
  rw [List.take_add_one, List.foldl_append, hj]
  rfl

/-- Element i of a row of one cell each. -/
theorem one_at {α : Type} {enc : α → Value} {w : World} {g n cap i e : Nat} {xs : List α} {z : α} (h : w.ownsRow 0 e 1 (.slice (some ⟨g, 0, none⟩) n cap) n (xs.map enc)) (hi : xs[i]? = some z) : w.cell? ⟨g, i, none⟩ = some (enc z) := by
  have := h.cells (g := g) rfl i (enc z) (by simp [hi])
  rw [Addr.add_lit] at this
  simpa using this

theorem learn_done {w' : World} (h : DevCh lab l w x pre post S K a B) (hl : l ≠ 0) (hB : B ≤ 9000000) {hd : Hd} (hG : GoodHd hd B) (hos : w'.os = w.os) (htp : w'.tape = w.tape) (hou : w'.output = w.output) (hsz : w.heap.size ≤ w'.heap.size) (hk : ∀ k, k < w.heap.size → k ≠ x → k ≠ a.kp → k ≠ a.ka → w'.heap[k]? = w.heap[k]?)
    (hx : w'.heap[x]? = some (.cells (pre ++ dchCells S hd a ++ post).toArray tBr (0, 0))) {f1 f2 : Int → Option Value} {n1 n2 : Nat} (m1 : MapIs Tryz.prog tU64 encU w' a.kp f1 n1) (e1 : ∀ k, pkF hd.packets k = f1 k) (m2 : MapIs Tryz.prog tU64 encU w' a.ka f2 n2) (e2 : ∀ k, ansF hd.answers k = f2 k) :
    DevTo lab l w x pre post S hd B w' := by
  obtain ⟨⟨n1', n2', n3'⟩, ⟨n4, n5⟩, n6⟩ := h.apart
  obtain ⟨l1, l2, l3, l4⟩ := h.lmap
  have row : ∀ {e size n : Nat} {v : Value} {xs : List Value}, w.ownsRow 0 e size v n xs → tBr ≠ e → w'.ownsRow 0 e size v n xs := fun r hne =>
    owns_keep r fun k e => hk k (owns_lt r e) (fun e1 => owns_ne h.blk r hne (by rw [e, e1])) (fun e1 => map_ne_row h.kpk r (by rw [e, e1])) (fun e1 => map_ne_row h.kan r (by rw [e, e1]))
  exact dev_build (a' := a) h hl hos htp hou hsz (fun k hkl h1 h2 => hk k hkl h2 (fun e => h1 (by rw [e]; exact l3)) (fun e => h1 (by rw [e]; exact l4))) hx ⟨rfl, rfl, rfl, rfl⟩
    (h.pend.keep (hk _ h.pend.lt (map_ne_blk h.pend h.blk) n2' n3')) (h.fund.keep (hk _ h.fund.lt (map_ne_blk h.fund h.blk) n4 n5)) (count_pk m1 e1 hG (by omega)) (count_ans m2 e2 hG (by omega))
    (row h.sent (by decide)) (fun k e _ => h.lsent k e) (row h.gone (by decide)) (fun k e _ => h.lgone k e) (row h.ans (by decide)) (fun k e _ => h.lans k e) (row h.heads (by decide)) (fun k e _ => h.lheads k e) (fun y hy => .inl hy) h.hsS h.fok h.good hG

theorem setC_os (w : World) (a : Addr) (v : Value) : (w.setCell a v).os = w.os := rfl
theorem setC_tape (w : World) (a : Addr) (v : Value) : (w.setCell a v).tape = w.tape := rfl
theorem setC_output (w : World) (a : Addr) (v : Value) : (w.setCell a v).output = w.output := rfl

/-- Six cells of the view are set. -/
theorem blk_view {w : World} (h : w.heap[x]? = some (.cells (pre ++ dchCells S K a ++ post).toArray tBr (0, 0))) (hq : pre.length = q) (hd : Hd) :
    ((((((w.setCell ⟨x, q + 14, none⟩ (.int .u64 hd.height)).setCell ⟨x, q + 14 + 1, none⟩ (.int .u64 hd.time)).setCell ⟨x, q + 14 + 2, none⟩ (.bool hd.isOpen)).setCell ⟨x, q + 14 + 3, none⟩ (.int .u64 hd.nextRecv)).setCell ⟨x, q + 14 + 4, none⟩ (.int .i64 hd.packets.length)).setCell ⟨x, q + 14 + 5, none⟩ (.int .i64 hd.answers.length)).heap[x]? =
      some (.cells (pre ++ dchCells S hd a ++ post).toArray tBr (0, 0)) := by
  have t1 := blkq_set h hq 14 (by simp [dchCells]) (.int .u64 hd.height)
  have t2 := blkq_set t1 hq 15 (by simp [dchCells]) (.int .u64 hd.time)
  have t3 := blkq_set t2 hq 16 (by simp [dchCells]) (.bool hd.isOpen)
  have t4 := blkq_set t3 hq 17 (by simp [dchCells]) (.int .u64 hd.nextRecv)
  have t5 := blkq_set t4 hq 18 (by simp [dchCells]) (.int .i64 hd.packets.length)
  exact blkq_set t5 hq 19 (by simp [dchCells]) (.int .i64 hd.answers.length)

theorem view_other {w : World} {k : Nat} (hk : k ≠ x) (v0 v1 v2 v3 v4 v5 : Value) :
    ((((((w.setCell ⟨x, q + 14, none⟩ v0).setCell ⟨x, q + 14 + 1, none⟩ v1).setCell ⟨x, q + 14 + 2, none⟩ v2).setCell ⟨x, q + 14 + 3, none⟩ v3).setCell ⟨x, q + 14 + 4, none⟩ v4).setCell ⟨x, q + 14 + 5, none⟩ v5).heap[k]? = w.heap[k]? := by
  rw [setCell_other _ _ _ hk, setCell_other _ _ _ hk, setCell_other _ _ _ hk, setCell_other _ _ _ hk, setCell_other _ _ _ hk, setCell_other _ _ _ hk]

set_option maxRecDepth 100000 in
set_option maxHeartbeats 1600000 in
theorem learn_any (h : DevCh lab l w x pre post S K a B) (hl : l ≠ 0) (hq : pre.length = q) (hB : B ≤ 9000000) (hd : Hd) (sent : List Pk) (gone : List Int) (ans : List Bool) (ap : Option Addr) (cp : Nat) (ag : Option Addr) (cg : Nat) (aa : Option Addr) (ca : Nat)
    (r1 : w.ownsRow 0 tPk 7 (.slice ap sent.length cp) sent.length (sent.flatMap Pk.cells)) (r2 : w.ownsRow 0 tU64 1 (.slice ag gone.length cg) gone.length (gone.map encU)) (r3 : w.ownsRow 0 tAnsw 1 (.slice aa ans.length ca) ans.length (ans.map ansV))
    (hN : News K hd sent gone ans) (hG : GoodHd hd B) (hls : sent.length ≤ B) (hlg : gone.length ≤ B) (hla : ans.length ≤ B) (hss : ∀ p ∈ sent, 1 ≤ p.seq ∧ p.seq ≤ B) (hgs : ∀ k ∈ gone, 1 ≤ k ∧ k ≤ B) :
    Calls Tryz.prog 82 #[.pointer (some ⟨x, q + 14, none⟩), HdN.agg ⟨hd, sent, gone, ans, ap, cp, ag, cg, aa, ca⟩] w fun e w' => e = .returned (.tuple #[]) ∧ DevTo lab l w x pre post S hd B w' := by
  have hxl : x < w.heap.size := blk_lt h.blk
  obtain ⟨w1, hw1⟩ : ∃ w1 : World, w1 = w.alloc (.cells #[.int .u64 hd.height, .int .u64 hd.time, .bool hd.isOpen, .int .u64 hd.nextRecv, .int .i64 hd.packets.length, .int .i64 hd.answers.length, .slice ap sent.length cp, .slice ag gone.length cg, .slice aa ans.length ca] tHeader) := ⟨_, rfl⟩
  have g1 : w.grownBy w1 none := by rw [hw1]; exact World.grownBy_alloc _ _ _
  have hX1 : w1.heap[w.heap.size]? = some (.cells #[.int .u64 hd.height, .int .u64 hd.time, .bool hd.isOpen, .int .u64 hd.nextRecv, .int .i64 hd.packets.length, .int .i64 hd.answers.length, .slice ap sent.length cp, .slice ag gone.length cg, .slice aa ans.length ca] tHeader (0, 0)) := by rw [hw1]; exact heap_alloc_new w _
  have h1 : DevCh (labN lab w.heap.size) l w1 x pre post S K a B := h.fresh g1
  have hlp := h.goodK.lp
  go_enter Tryz.func82, Tryz.ntmps82
  go_wp2_with fail
  rw [← hw1]
  clear hw1
  have hz1 : w.heap.size < w1.heap.size := blk_lt hX1
  have hxl1 : x < w1.heap.size := blk_lt h1.blk
  have hkx : a.kp ≠ x := map_ne_blk h.kpk h.blk
  have hax : a.ka ≠ x := map_ne_blk h.kan h.blk
  have hkN : a.kp ≠ w.heap.size := by have := h.kpk.lt; omega
  have haN : a.ka ≠ w.heap.size := by have := h.kan.lt; omega
  have hka : a.kp ≠ a.ka := h.apart.2.2
  have q1 := owns_by r1 g1
  have q2 := owns_by r2 g1
  have q3 := owns_by r3 g1
  go_loopw [14] (fun i wr => ∃ k : Nat, i = .int .i64 k ∧ k ≤ sent.length ∧ w1.grownBy wr (some a.kp) ∧ ∃ nk, nk ≤ B + k ∧ MapIs Tryz.prog tU64 encU wr a.kp (sentF (pkF K.packets) (sent.take k)) nk) (fun i _ => sent.length - (intOf i).toNat)
  case atStart => exact ⟨0, rfl, Nat.zero_le _, grown_refl _ _, K.packets.length, by omega, h1.kpk⟩
  case round =>
    obtain ⟨k, rfl, hk, gw, nk, hnk, hM⟩ := hrel
    have hBw := (gw.block x hxl1 (by simp; exact fun e => hkx e.symm)).trans h1.blk
    have hXw := (gw.block w.heap.size hz1 (by simp; exact fun e => hkN e.symm)).trans hX1
    obtain ⟨c0, c1, c2, c3, c4, c5, c6, c7, c8, c9, c10, c11, c12, c13, c14, c15, c16, c17, c18, c19, c20, c21, cf⟩ := dch_cells hBw hq
    by_cases hlt : k < sent.length
    · have hkl : (k : Int) < (sent.length : Int) := by omega
      obtain ⟨g, rfl⟩ := row_some q1 hlt
      obtain ⟨p, hp⟩ : ∃ p, sent[k]? = some p := ⟨sent[k], List.getElem?_eq_getElem hlt⟩
      have qw := owns_keep q1 fun j e => gw.block j (owns_lt q1 e) (fun e1 => map_ne_row h1.kpk q1 (by rw [e1] at e; exact e.symm))
      obtain ⟨p0, p1, p2, p3, p4, p5, p6⟩ := pk_at qw hp
      have hps := hss p (List.mem_of_getElem? hp)
      go_wp2_with fail
      obtain ⟨w2, hw2⟩ : ∃ w2 : World, w2 = wr.alloc (.cells p.arr tPk) := ⟨_, rfl⟩
      rw [← hw2]
      have g2 : wr.grownBy w2 none := by rw [hw2]; exact World.grownBy_alloc _ _ _
      have hP2 : w2.heap[wr.heap.size]? = some (.cells p.arr tPk (0, 0)) := by rw [hw2]; exact heap_alloc_new wr _
      have hB2 := (g2.block x (blk_lt hBw) (by simp)).trans hBw
      clear hw2 c0 c1 c2 c3 c4 c5 c6 c7 c8 c9 c10 c11 c12 c13 c14 c15 c16 c17 c18 c19 c20 c21 cf p0 p1 p2 p3 p4 p5 p6
      obtain ⟨c0, c1, c2, c3, c4, c5, c6, c7, c8, c9, c10, c11, c12, c13, c14, c15, c16, c17, c18, c19, c20, c21, cf⟩ := dch_cells hB2 hq
      clear c0 c1 c2 c3 c4 c5 c6 c7 c8 c9 c10 c11 c12 c13 c14 c15 c16 c17 c18 c19 c21 cf
      obtain ⟨x0, x1, x2, x3, x4, x5, x6, xf⟩ := blk7 hP2
      obtain ⟨w3, hrun, hM3, ht3⟩ := ((hM.keep (g2.block _ hM.lt (by simp))).keep (w' := w2.drew) rfl).store encU_inj lawU Tryz.underlying83 (by unfold maxLen; omega) (keyU (k := p.seq) (by omega) (by omega)) p.agg
      simp only [encU] at hrun
      go_region
      go_wp2_with fail
      go_roundw
      case rel =>
        refine ⟨k + 1, by go_num, by omega, grown_trans gw (grown_trans (grown_none (grown_drew g2) (some a.kp)) ht3.grown (fun j e => .inl e)) (fun j e => .inl e), _, ?_, by rw [sentF_snoc hp]; exact hM3⟩
        unfold putN
        split <;> omega
      case measure => simp [intOf]; omega
    · have hke : k = sent.length := by omega
      subst hke
      have hnl : ¬ ((sent.length : Int) < (sent.length : Int)) := by omega
      rw [List.take_length] at hM
      obtain ⟨y0, y1, y2, y3, y4, y5, y6, y7, y8, yf⟩ := blk9c hXw
      clear hk
      go_wp2_with fail
      go_loopw [30] (fun i ws => ∃ k : Nat, i = .int .i64 k ∧ k ≤ gone.length ∧ w1.grownBy ws (some a.kp) ∧ ∃ nk, nk ≤ B + sent.length ∧ MapIs Tryz.prog tU64 encU ws a.kp ((gone.take k).foldl delF (sentF (pkF K.packets) sent)) nk) (fun i _ => gone.length - (intOf i).toNat)
      case atStart => exact ⟨0, rfl, Nat.zero_le _, gw, nk, hnk, hM⟩
      case round =>
        clear hM hBw hXw y0 y1 y2 y3 y4 y5 y6 y7 y8 yf c0 c1 c2 c3 c4 c5 c6 c7 c8 c9 c10 c11 c12 c13 c14 c15 c16 c17 c18 c19 c20 c21 cf
        obtain ⟨k, rfl, hk, gs, nj, hnj, hMs⟩ := hrel
        have hBs := (gs.block x hxl1 (by simp; exact fun e => hkx e.symm)).trans h1.blk
        have hXs := (gs.block w.heap.size hz1 (by simp; exact fun e => hkN e.symm)).trans hX1
        obtain ⟨c0, c1, c2, c3, c4, c5, c6, c7, c8, c9, c10, c11, c12, c13, c14, c15, c16, c17, c18, c19, c20, c21, cf⟩ := dch_cells hBs hq
        by_cases hlt : k < gone.length
        · have hkl : (k : Int) < (gone.length : Int) := by omega
          obtain ⟨g, rfl⟩ := row_some q2 hlt
          obtain ⟨j, hj⟩ : ∃ j, gone[k]? = some j := ⟨gone[k], List.getElem?_eq_getElem hlt⟩
          have qs := owns_keep q2 fun j e => gs.block j (owns_lt q2 e) (fun e1 => map_ne_row h1.kpk q2 (by rw [e1] at e; exact e.symm))
          have p0 := one_at qs hj
          simp only [encU] at p0
          have hjs := hgs j (List.mem_of_getElem? hj)
          go_wp2_with (at_delete; refine wpList_map_drop encU_inj rfl _ _ 83 rfl 28 lawU Tryz.underlying83 rfl hMs j _ rfl (keyU (by omega) (by omega)) ?_; intro w3 hM3 ht3)
          go_roundw
          case rel =>
            refine ⟨k + 1, by go_num, by omega, grown_trans gs ht3.grown (fun j e => .inl e), _, ?_, by rw [goneF_snoc hj]; exact hM3⟩
            unfold delN
            split <;> omega
          case measure => simp [intOf]; omega
        · have hke : k = gone.length := by omega
          subst hke
          have hnl : ¬ ((gone.length : Int) < (gone.length : Int)) := by omega
          rw [List.take_length] at hMs
          obtain ⟨y0, y1, y2, y3, y4, y5, y6, y7, y8, yf⟩ := blk9c hXs
          clear hk
          go_wp2_with fail
          obtain ⟨wb, rfl⟩ : ∃ wb : World, wb = wr := ⟨_, rfl⟩
          have hr := h.goodK.recv
          have hlK := h.goodK.la
          have hKA : MapIs Tryz.prog tU64 encU wb a.ka (ansF K.answers) K.answers.length := h1.kan.keep (gs.block _ h1.kan.lt (by simp; exact fun e => hka e.symm))
          go_loopw [44] (fun i wt => ∃ k : Nat, i = .int .i64 k ∧ k ≤ ans.length ∧ wb.grownBy wt (some a.ka) ∧ ∃ na, na ≤ B + k ∧ MapIs Tryz.prog tU64 encU wt a.ka (ansF (K.answers ++ num K.nextRecv (ans.take k))) na) (fun i _ => ans.length - (intOf i).toNat)
          case atStart => exact ⟨0, rfl, Nat.zero_le _, grown_refl _ _, K.answers.length, by omega, by simpa [num] using hKA⟩
          case round =>
            clear y0 y1 y2 y3 y4 y5 y6 y7 y8 yf c0 c1 c2 c3 c4 c5 c6 c7 c8 c9 c10 c11 c12 c13 c14 c15 c16 c17 c18 c19 c20 c21 cf
            obtain ⟨k, rfl, hk, gt, na, hna, hMt⟩ := hrel
            have hBt := (gt.block x (blk_lt hBs) (by simp; exact fun e => hax e.symm)).trans hBs
            have hXt := (gt.block w.heap.size (blk_lt hXs) (by simp; exact fun e => haN e.symm)).trans hXs
            obtain ⟨c0, c1, c2, c3, c4, c5, c6, c7, c8, c9, c10, c11, c12, c13, c14, c15, c16, c17, c18, c19, c20, c21, cf⟩ := dch_cells hBt hq
            by_cases hlt : k < ans.length
            · have hkl : (k : Int) < (ans.length : Int) := by omega
              obtain ⟨g, rfl⟩ := row_some q3 hlt
              obtain ⟨b, hb⟩ : ∃ b, ans[k]? = some b := ⟨ans[k], List.getElem?_eq_getElem hlt⟩
              have qs := owns_keep q3 fun j e => gs.block j (owns_lt q3 e) (fun e1 => map_ne_row h1.kpk q3 (by rw [e1] at e; exact e.symm))
              have qt := owns_keep qs fun j e => gt.block j (owns_lt qs e) (fun e1 => map_ne_row hKA qs (by rw [e1] at e; exact e.symm))
              have p0 := one_at qt hb
              obtain ⟨v, hv⟩ : ∃ v : Int, ansV b = .int .i64 v := ⟨_, rfl⟩
              rw [hv] at p0
              have hW1 : IntKind.u64.wrap (k : Int) = (k : Int) := by simp [IntKind.wrap, IntKind.bits, IntKind.signed]; omega
              have hW2 : IntKind.u64.wrap (K.nextRecv + (k : Int)) = K.nextRecv + (k : Int) := by simp [IntKind.wrap, IntKind.bits, IntKind.signed]; omega
              obtain ⟨w3, hrun, hM3, ht3⟩ := (hMt.keep (w' := wr.drew) rfl).store encU_inj lawU Tryz.underlying91 (by unfold maxLen; omega) (keyU (k := K.nextRecv + (k : Int)) (by omega) (by omega)) (.int .i64 v)
              simp only [encU] at hrun
              have HV : Hid (ansV b = .int .i64 v) := hv
              have HR : Hid (K.nextRecv = K.answers.length + 1) := hr
              clear hv hr
              clear c0 c1 c2 c3 c4 c5 c6 c7 c8 c9 c10 c11 c12 c13 c14 c15 c16 c18 c19 c20 cf
              go_wp2_with fail
              go_region
              go_wp2_with fail
              go_roundw
              case rel =>
                refine ⟨k + 1, by go_num, by omega, grown_trans gt ⟨ht3.grown.os, ht3.grown.tape, ht3.grown.output, ht3.grown.size, ht3.grown.block⟩ (fun j e => .inl e), _, ?_, hM3.cong (fun j _ _ => ?_)⟩
                · unfold putN
                  split <;> omega
                · have ht : ans.take (k + 1) = ans.take k ++ [b] := by rw [List.take_add_one, hb]; rfl
                  have hlen : (ans.take k).length = k := by simp; omega
                  have hr' := HR.out
                  rw [ht, num_snoc, ← List.append_assoc, hlen, ← HV.out, ansF_snoc]
                  intro z hz
                  rcases List.mem_append.1 hz with hz | hz
                  · obtain ⟨i, hi⟩ := List.getElem?_of_mem hz
                    have h5 := h.goodK.ans i z hi
                    have h6 := (List.getElem?_eq_some_iff.1 hi).1
                    omega
                  · have h5 := num_lt _ _ z hz
                    omega
              case measure => simp [intOf]; omega
            · have hke : k = ans.length := by omega
              subst hke
              have hnl : ¬ ((ans.length : Int) < (ans.length : Int)) := by omega
              rw [List.take_length] at hMt
              obtain ⟨y0, y1, y2, y3, y4, y5, y6, y7, y8, yf⟩ := blk9c hXt
              clear hk
              go_wp2_with fail
              go_end0
              suffices hfin : ∀ w7 : World, w7 = (((((wr.setCell ⟨x, q + 14, none⟩ (.int .u64 hd.height)).setCell ⟨x, q + 14 + 1, none⟩ (.int .u64 hd.time)).setCell ⟨x, q + 14 + 2, none⟩ (.bool hd.isOpen)).setCell ⟨x, q + 14 + 3, none⟩ (.int .u64 hd.nextRecv)).setCell ⟨x, q + 14 + 4, none⟩ (.int .i64 hd.packets.length)).setCell ⟨x, q + 14 + 5, none⟩ (.int .i64 hd.answers.length) → DevTo lab l w x pre post S hd B w7 from ⟨rfl, hfin _ rfl⟩
              intro w7 hw7
              have hB7 : w7.heap[x]? = some (.cells (pre ++ dchCells S hd a ++ post).toArray tBr (0, 0)) := by rw [hw7]; exact blk_view hBt hq hd
              have far : ∀ k, k ≠ x → w7.heap[k]? = wr.heap[k]? := fun k hk => by rw [hw7]; exact view_other hk _ _ _ _ _ _
              have hs7 : w7.heap.size = wr.heap.size := by rw [hw7]; simp only [setCell_size]
              have ho7 : w7.os = wr.os ∧ w7.tape = wr.tape ∧ w7.output = wr.output := by rw [hw7]; exact ⟨by simp only [setC_os], by simp only [setC_tape], by simp only [setC_output]⟩
              clear hw7
              have sz1 := gt.size
              have sz2 := gs.size
              exact DevTo.trans (grown_stepL g1) (learn_done h1 hl hB hG (ho7.1.trans (gt.os.trans gs.os)) (ho7.2.1.trans (gt.tape.trans gs.tape)) (ho7.2.2.trans (gt.output.trans gs.output)) (by omega)
                (fun k h2 h3 h4 h5 => by rw [far k h3, gt.block k (by omega) (by simpa using h5), gs.block k h2 (by simpa using h4)]) hB7 (hMs.keep (by rw [far _ hkx, gt.block _ hMs.lt (by simpa using hka)])) hN.p (hMt.keep (far _ hax)) (fun k => by rw [hN.a]))

end

end Go.Proofs.YtmfdhcnnhlchbaaGreat

namespace Go.Proofs.YtmfdhcnnhlchbaaGreat
open Go.RowKit Go.Maps

section
variable {lab : Nat → Nat} {l : Nat} {w : World} {x q : Nat} {pre post : List Value} {S : Ch} {K : Hd} {a : DAt} {B : Nat}

/-- Header i of a row. -/
theorem hdn_at {w : World} {g n cap i : Nat} {hs : List HdN} {y : HdN} (h : w.ownsRow 0 tHeader 9 (.slice (some ⟨g, 0, none⟩) n cap) n (hs.flatMap HdN.cells)) (hi : hs[i]? = some y) :
    w.cell? ⟨g, i * 9, none⟩ = some (.int .u64 y.hd.height) ∧ w.cell? ⟨g, i * 9 + 1, none⟩ = some (.int .u64 y.hd.time) ∧ w.cell? ⟨g, i * 9 + 2, none⟩ = some (.bool y.hd.isOpen) ∧ w.cell? ⟨g, i * 9 + 3, none⟩ = some (.int .u64 y.hd.nextRecv) ∧
    w.cell? ⟨g, i * 9 + 4, none⟩ = some (.int .i64 y.hd.packets.length) ∧ w.cell? ⟨g, i * 9 + 5, none⟩ = some (.int .i64 y.hd.answers.length) ∧ w.cell? ⟨g, i * 9 + 6, none⟩ = some (.slice y.ap y.sent.length y.cp) ∧ w.cell? ⟨g, i * 9 + 7, none⟩ = some (.slice y.ag y.gone.length y.cg) ∧ w.cell? ⟨g, i * 9 + 8, none⟩ = some (.slice y.aa y.ans.length y.ca) := by
  have hc := h.cells (g := g) rfl
  have key : ∀ (hs : List HdN) (i j : Nat), hs[i]? = some y → j < 9 → (hs.flatMap HdN.cells)[i * 9 + j]? = y.cells[j]? := by
    intro hs
    induction hs with
    | nil => intro i j hi; simp at hi
    | cons x r ih =>
      intro i j hi hj
      have hl : x.cells.length = 9 := rfl
      cases i with
      | zero =>
        simp at hi
        subst hi
        simp only [List.flatMap_cons, Nat.zero_mul, Nat.zero_add]
        rw [List.getElem?_append_left (by omega)]
      | succ i =>
        simp only [List.getElem?_cons_succ] at hi
        simp only [List.flatMap_cons]
        rw [List.getElem?_append_right (by omega), hl, show (i + 1) * 9 + j - 9 = i * 9 + j from by omega]
        exact ih i j hi hj
  have get : ∀ j v, y.cells[j]? = some v → w.cell? ⟨g, i * 9 + j, none⟩ = some v := by
    intro j v hv
    have hj : j < 9 := by have := (List.getElem?_eq_some_iff.1 hv).1; simpa [HdN.cells] using this
    have := hc (i * 9 + j) v (by rw [key hs i j hi hj]; exact hv)
    rw [Addr.add_lit] at this
    simpa using this
  exact ⟨get 0 _ rfl, get 1 _ rfl, get 2 _ rfl, get 3 _ rfl, get 4 _ rfl, get 5 _ rfl, get 6 _ rfl, get 7 _ rfl, get 8 _ rfl⟩

/-- Headers of the other chain, from height f on, as Update reads them: n of them, in block g from cell o on. -/
structure Others (lab : Nat → Nat) (l : Nat) (w : World) (x : Nat) (hs : List HdN) (f g o n B : Nat) : Prop where
  cells : ∀ (i : Nat) (y : HdN), hs[f + i]? = some y → ∀ j v, y.cells[j]? = some v → w.cell? ⟨g, o + i * 9 + j, none⟩ = some v
  gl : g < w.heap.size
  lg : lab g ≠ l
  ne : g ≠ x
  all : f + n = hs.length
  pos : 0 < n
  each : ∀ y ∈ hs, HdRows lab w y
  told : Told hs
  good : ∀ (i : Nat) (y : HdN), hs[i]? = some y → y.hd.height = i ∧ GoodHd y.hd B
  lens : ∀ y ∈ hs, y.sent.length ≤ B ∧ y.gone.length ≤ B ∧ y.ans.length ≤ B ∧ ∀ k ∈ y.gone, 1 ≤ k ∧ k ≤ B
  hseq : ∀ y ∈ hs, ∀ p ∈ y.sent, 1 ≤ p.seq ∧ p.seq ≤ B
  len : hs.length ≤ B + 1

/-- Header f + i, as it is read. -/
theorem Others.at {lab : Nat → Nat} {l : Nat} {w : World} {x : Nat} {hs : List HdN} {f g o n B : Nat} (O : Others lab l w x hs f g o n B) {w' : World} (hb : w'.heap[g]? = w.heap[g]?) {i : Nat} {y : HdN} (hi : hs[f + i]? = some y) :
    w'.cell? ⟨g, o + i * 9, none⟩ = some (.int .u64 y.hd.height) ∧ w'.cell? ⟨g, o + i * 9 + 1, none⟩ = some (.int .u64 y.hd.time) ∧ w'.cell? ⟨g, o + i * 9 + 2, none⟩ = some (.bool y.hd.isOpen) ∧ w'.cell? ⟨g, o + i * 9 + 3, none⟩ = some (.int .u64 y.hd.nextRecv) ∧
    w'.cell? ⟨g, o + i * 9 + 4, none⟩ = some (.int .i64 y.hd.packets.length) ∧ w'.cell? ⟨g, o + i * 9 + 5, none⟩ = some (.int .i64 y.hd.answers.length) ∧ w'.cell? ⟨g, o + i * 9 + 6, none⟩ = some (.slice y.ap y.sent.length y.cp) ∧ w'.cell? ⟨g, o + i * 9 + 7, none⟩ = some (.slice y.ag y.gone.length y.cg) ∧ w'.cell? ⟨g, o + i * 9 + 8, none⟩ = some (.slice y.aa y.ans.length y.ca) := by
  have e : ∀ k, w'.cell? ⟨g, k, none⟩ = w.cell? ⟨g, k, none⟩ := fun k => by simp only [World.cell?, hb]
  simp only [e]
  exact ⟨O.cells i y hi 0 _ rfl, O.cells i y hi 1 _ rfl, O.cells i y hi 2 _ rfl, O.cells i y hi 3 _ rfl, O.cells i y hi 4 _ rfl, O.cells i y hi 5 _ rfl, O.cells i y hi 6 _ rfl, O.cells i y hi 7 _ rfl, O.cells i y hi 8 _ rfl⟩

/-- A row's headers from one on. -/
theorem row_from {w : World} {g n cap i f : Nat} {hs : List HdN} {y : HdN} (h : w.ownsRow 0 tHeader 9 (.slice (some ⟨g, 0, none⟩) n cap) n (hs.flatMap HdN.cells)) (hi : hs[f + i]? = some y) (j : Nat) (v : Value) (hv : y.cells[j]? = some v) : w.cell? ⟨g, f * 9 + i * 9 + j, none⟩ = some v := by
  obtain ⟨z0, z1, z2, z3, z4, z5, z6, z7, z8⟩ := hdn_at h hi
  rw [show f * 9 + i * 9 + j = (f + i) * 9 + j from by omega]
  have hj : j < 9 := by have := (List.getElem?_eq_some_iff.1 hv).1; simpa [HdN.cells] using this
  have hj : j = 0 ∨ j = 1 ∨ j = 2 ∨ j = 3 ∨ j = 4 ∨ j = 5 ∨ j = 6 ∨ j = 7 ∨ j = 8 := by omega
  rcases hj with rfl | rfl | rfl | rfl | rfl | rfl | rfl | rfl | rfl
  all_goals (cases hv; assumption)

theorem told_at : ∀ (hs : List HdN) (i : Nat) (y z : HdN), Told hs → hs[i]? = some y → hs[i + 1]? = some z → News y.hd z.hd z.sent z.gone z.ans
  | [], i, y, z, _, h, _ => by simp at h
  | [b], i, y, z, _, _, h => by simp at h
  | b :: c :: r, 0, y, z, ht, h1, h2 => by simp at h1 h2; subst h1; subst h2; exact ht.1
  | b :: c :: r, i + 1, y, z, ht, h1, h2 => told_at (c :: r) i y z ht.2 (by simpa using h1) (by simpa using h2)

set_option maxRecDepth 100000 in
set_option maxHeartbeats 1600000 in
theorem update_no (h : DevCh lab l w x pre post S K a B) (hq : pre.length = q) (hB : B ≤ 9000000) {hs : List HdN} {f g o ln ch : Nat} (O : Others lab l w x hs f g o ln B) {n : Int} {kn : Nat} (hkh : K.height = (kn : Int)) (hf : f ≤ kn) (hn : 0 ≤ n ∧ n < 18446744073709551616) (hno : n ≤ K.height ∨ ¬ n ≤ K.height ∧ (hs.length : Int) ≤ n) :
    Calls Tryz.prog 61 #[.pointer (some ⟨x, q, none⟩), .int .u64 n, .slice (some ⟨g, o, none⟩) ln ch] w fun e w' => e = .returned (.int .i64 8) ∧ w' = w := by
  obtain ⟨c0, c1, c2, c3, c4, c5, c6, c7, c8, c9, c10, c11, c12, c13, c14, c15, c16, c17, c18, c19, c20, c21, cf⟩ := dch_cells h.blk hq
  have hlen := O.len
  have hall := O.all
  have hpos := O.pos
  have hw1 : IntKind.u64.wrap (ln : Int) = ln := by simp [IntKind.wrap, IntKind.bits, IntKind.signed]; omega
  obtain ⟨y, hy⟩ : ∃ y, hs[f + 0]? = some y := ⟨hs[f], List.getElem?_eq_getElem (by omega)⟩
  obtain ⟨z0, zr⟩ := O.at rfl hy
  have hyf : y.hd.height = (f : Int) := (O.good _ y hy).1
  rw [hyf, Nat.zero_mul, Nat.add_zero] at z0
  have hlt : 0 < (ln : Int) := by omega
  clear zr hlen hall hyf hy
  rcases hno with h1 | ⟨h1, h2⟩
  · clear hkh hf hn
    go_enter Tryz.func61, Tryz.ntmps61
    go_wp2_with fail
    go_ret
    exact ⟨rfl, rfl⟩
  · have hw2 : IntKind.u64.wrap (n - f) = n - f := by simp [IntKind.wrap, IntKind.bits, IntKind.signed]; omega
    have h3 : (ln : Int) ≤ n - f := by have := O.all; omega
    clear hkh hf hn h2
    go_enter Tryz.func61, Tryz.ntmps61
    go_wp2_with fail
    go_ret
    exact ⟨rfl, rfl⟩

/-- What an update has left: header m is the one that is known. -/
def UpdTo (lab : Nat → Nat) (l : Nat) (w : World) (x : Nat) (pre post : List Value) (S : Ch) (hs : List HdN) (m B : Nat) (w' : World) : Prop := ∃ y, hs[m]? = some y ∧ DevTo lab l w x pre post S y.hd B w'

theorem HdRows.stay {lab lab' : Nat → Nat} {w w' : World} {y : HdN} (r : HdRows lab w y) (st : StepL l x lab lab' w w') (hl : l ≠ 0) (hx : lab x ≠ 0) : HdRows lab' w' y :=
  r.keep (fun k hk e => st.block k hk (by rw [e]; exact fun e1 => hl e1.symm) (fun e1 => hx (by rw [← e1]; exact e))) (fun k hk => st.label k hk)

set_option maxRecDepth 100000 in
set_option maxHeartbeats 1600000 in
theorem update_ok (h : DevCh lab l w x pre post S K a B) (hl : l ≠ 0) (hq : pre.length = q) (hB : B ≤ 9000000) {hs : List HdN} {f g o ln ch : Nat} (O : Others lab l w x hs f g o ln B) (hch : ln ≤ ch) {kn m : Nat} {y0 : HdN} (hy0 : hs[kn]? = some y0) (hK : y0.hd = K) (hf : f ≤ kn) (hm : kn < m) (hm2 : m < hs.length) :
    Calls Tryz.prog 61 #[.pointer (some ⟨x, q, none⟩), .int .u64 (m : Int), .slice (some ⟨g, o, none⟩) ln ch] w fun e w' => e = .returned (.int .i64 0) ∧ UpdTo lab l w x pre post S hs m B w' := by
  have hxl : x < w.heap.size := blk_lt h.blk
  obtain ⟨c0, c1, c2, c3, c4, c5, c6, c7, c8, c9, c10, c11, c12, c13, c14, c15, c16, c17, c18, c19, c20, c21, cf⟩ := dch_cells h.blk hq
  have hkh : K.height = (kn : Int) := by rw [← hK]; exact (O.good kn y0 hy0).1
  rw [hkh] at c14
  have hlen := O.len
  have hall := O.all
  have hpos := O.pos
  obtain ⟨y, hy⟩ : ∃ y, hs[f + 0]? = some y := ⟨hs[f], List.getElem?_eq_getElem (by omega)⟩
  obtain ⟨z0, zr⟩ := O.at rfl hy
  have hyf : y.hd.height = (f : Int) := (O.good _ y hy).1
  rw [hyf, Nat.zero_mul, Nat.add_zero] at z0
  clear zr hyf hy y
  have hlt : 0 < (ln : Int) := by omega
  have hw1 : IntKind.u64.wrap (ln : Int) = ln := by simp [IntKind.wrap, IntKind.bits, IntKind.signed]; omega
  have hw2 : IntKind.u64.wrap ((kn : Int) + 1) = ((kn + 1 : Nat) : Int) := by simp [IntKind.wrap, IntKind.bits, IntKind.signed]; omega
  have hw3 : IntKind.u64.wrap ((m : Int) + 1) = ((m + 1 : Nat) : Int) := by simp [IntKind.wrap, IntKind.bits, IntKind.signed]; omega
  have hw4 : IntKind.u64.wrap ((m : Int) - f) = ((m - f : Nat) : Int) := by simp [IntKind.wrap, IntKind.bits, IntKind.signed]; omega
  have hw5 : IntKind.u64.wrap (((kn + 1 : Nat) : Int) - f) = ((kn + 1 - f : Nat) : Int) := by simp [IntKind.wrap, IntKind.bits, IntKind.signed]; omega
  have hw6 : IntKind.u64.wrap (((m + 1 : Nat) : Int) - f) = ((m + 1 - f : Nat) : Int) := by simp [IntKind.wrap, IntKind.bits, IntKind.signed]; omega
  have t1 : ¬ ((ln : Int) ≤ ((m - f : Nat) : Int)) := by omega
  have t2 : ¬ ((m : Int) ≤ (kn : Int)) := by omega
  have t3 : kn + 1 - f ≤ m + 1 - f := by omega
  have t4 : m + 1 - f ≤ ln := by omega
  have t5 : m + 1 - f ≤ ch := by omega
  go_enter Tryz.func61, Tryz.ntmps61
  go_wp2_with fail
  clear z0 c0 c1 c2 c3 c4 c5 c6 c7 c8 c9 c10 c11 c12 c13 c14 c15 c16 c17 c18 c19 c20 c21 cf
  go_loopw [48] (fun i wr => ∃ k : Nat, i = .int .i64 k ∧ k ≤ m - kn ∧ ∃ y, hs[kn + k]? = some y ∧ ∃ lab' a', DevCh lab' l wr x pre post S y.hd a' B ∧ StepL l x lab lab' w wr) (fun i _ => (m - kn) - (intOf i).toNat)
  case atStart => exact ⟨0, rfl, Nat.zero_le _, y0, hy0, lab, a, by rw [hK]; exact h, StepL.refl _ _ _ _⟩
  case round =>
    obtain ⟨k, rfl, hk, y, hy, lab', a', hD, st⟩ := hrel
    by_cases hlt : k < m - kn
    · have hkl : (k : Int) < ((m + 1 - f - (kn + 1 - f) : Nat) : Int) := by omega
      obtain ⟨z, hz⟩ : ∃ z, hs[kn + k + 1]? = some z := ⟨hs[kn + k + 1], List.getElem?_eq_getElem (by omega)⟩
      have hzm := List.mem_of_getElem? hz
      have hz' : hs[f + (kn + 1 - f + k)]? = some z := by rw [← hz]; congr 1; omega
      obtain ⟨z0, z1, z2, z3, z4, z5, z6, z7, z8⟩ := O.at (w' := wr) (st.block g O.gl O.lg O.ne) hz'
      have ez : o + (kn + 1 - f + k) * 9 = o + (kn + 1 - f) * 9 + k * 9 := by omega
      rw [ez] at z0 z1 z2 z3 z4 z5 z6 z7 z8
      have Hz : Hid (o + (kn + 1 - f + k) * 9 = o + (kn + 1 - f) * 9 + k * 9) := ez
      clear ez hz'
      obtain ⟨c0, c1, c2, c3, c4, c5, c6, c7, c8, c9, c10, c11, c12, c13, c14, c15, c16, c17, c18, c19, c20, c21, cf⟩ := dch_cells hD.blk hq
      have hxr := blk_lt hD.blk
      go_wp2_with fail
      obtain ⟨w2, hw2⟩ : ∃ w2 : World, w2 = wr.alloc (.cells #[.int .u64 z.hd.height, .int .u64 z.hd.time, .bool z.hd.isOpen, .int .u64 z.hd.nextRecv, .int .i64 z.hd.packets.length, .int .i64 z.hd.answers.length, .slice z.ap z.sent.length z.cp, .slice z.ag z.gone.length z.cg, .slice z.aa z.ans.length z.ca] tHeader) := ⟨_, rfl⟩
      rw [← hw2]
      have g2 : wr.grownBy w2 none := by rw [hw2]; exact World.grownBy_alloc _ _ _
      have hX2 : w2.heap[wr.heap.size]? = some (.cells #[.int .u64 z.hd.height, .int .u64 z.hd.time, .bool z.hd.isOpen, .int .u64 z.hd.nextRecv, .int .i64 z.hd.packets.length, .int .i64 z.hd.answers.length, .slice z.ap z.sent.length z.cp, .slice z.ag z.gone.length z.cg, .slice z.aa z.ans.length z.ca] tHeader (0, 0)) := by rw [hw2]; exact heap_alloc_new wr _
      clear hw2 c0 c1 c2 c3 c4 c5 c6 c7 c8 c9 c10 c11 c12 c13 c14 c15 c16 c17 c18 c19 c20 c21 cf z0 z1 z2 z3 z4 z5 z6 z7 z8
      obtain ⟨x0, x1, x2, x3, x4, x5, x6, x7, x8, xf⟩ := blk9c hX2
      have hR := (O.each z hzm).stay st hl h.lx.2
      have g2d : wr.grownBy w2.drew none := grown_drew g2
      have hlearn := learn_any (hD.fresh g2d) hl hq hB z.hd z.sent z.gone z.ans z.ap z.cp z.ag z.cg z.aa z.ca (owns_by hR.1.1 g2d) (owns_by hR.2.1.1 g2d) (owns_by hR.2.2.1 g2d) (told_at hs (kn + k) y z O.told hy hz) (O.good _ z hz).2 (O.lens z hzm).1 (O.lens z hzm).2.1 (O.lens z hzm).2.2.1 (O.hseq z hzm) (O.lens z hzm).2.2.2
      refine wp_region_head 4 (by kernel_rfl) (by kernel_rfl) #[true, true, true, true, false] (by kernel_rfl) ?_
      simp only [List.take_succ_cons, List.take_zero]
      repeat still_step
      refine wpStill_nil ?_
      refine wpAny_ready (rs := [4]) (by kernel_rfl) (by simp) ?_
      refine AllReady.cons (o := _) rfl (fun K hK => ?_) AllReady.nil
      go_simp
      refine hlearn.mono ?_
      rintro e w3 ⟨rfl, lab3, a3, hD3, st3⟩
      refine hK _ _ ?_
      clear hK K
      refine wpAny_done (by kernel_rfl) ?_ _
      go_wp2_with fail
      go_roundw
      case rel => exact ⟨k + 1, by go_num, by omega, z, hz, lab3, a3, hD3, st.trans ((grown_stepL g2d).trans st3)⟩
      case measure => simp [intOf]; omega
    · have hke : k = m - kn := by omega
      subst hke
      have hnl : ¬ (((m - kn : Nat) : Int) < ((m + 1 - f - (kn + 1 - f) : Nat) : Int)) := by omega
      go_wp2_with fail
      go_ret
      exact ⟨rfl, y, by rw [show m = kn + (m - kn) from by omega]; exact hy, lab', a', hD, st⟩

end

end Go.Proofs.YtmfdhcnnhlchbaaGreat
