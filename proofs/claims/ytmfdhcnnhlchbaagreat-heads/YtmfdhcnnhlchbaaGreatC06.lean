import Derived.Test.YtmfdhcnnhlchbaaGreatC04
import Derived.Deep.RegionHeld3
import Derived.LoopN
import Derived.Deep.QuietTactic
import Derived.BigQuiet
namespace Go.Proofs.YtmfdhcnnhlchbaaGreat
open Go.RowKit

theorem owns_some' {w : World} {e size n c : Nat} {a : Option Addr} {xs : List Value} (h : w.ownsRow 0 e size (.slice a n c) n xs) (hn : 0 < n) : ∃ g, a = some ⟨g, 0, none⟩ ∧ n ≤ c ∧ c ≤ maxLen := by
  rcases h.2 with ⟨e1, e2⟩ | ⟨g, cap, cur, e1, _, _, h1, h2, _⟩
  · omega
  · simp at e1
    obtain ⟨rfl, rfl⟩ := e1
    exact ⟨g, rfl, h1, h2⟩

theorem flat_get {α β : Type} (f : α → List β) (size : Nat) (hf : ∀ x, (f x).length = size) : ∀ (l : List α) (i j : Nat) (x : α), l[i]? = some x → j < size → (l.flatMap f)[i * size + j]? = (f x)[j]? := by
  intro l
  induction l with
  | nil => intro i j x hi; simp at hi
  | cons y r ih =>
    intro i j x hi hj
    have hl := hf y
    cases i with
    | zero =>
      simp at hi
      subst hi
      simp only [List.flatMap_cons, Nat.zero_mul, Nat.zero_add]
      rw [List.getElem?_append_left (by omega)]
    | succ i =>
      simp only [List.getElem?_cons_succ] at hi
      simp only [List.flatMap_cons]
      have e : (i + 1) * size + j = size + (i * size + j) := by rw [Nat.add_mul]; omega
      rw [List.getElem?_append_right (by omega), hl, show (i + 1) * size + j - size = i * size + j from by omega]
      exact ih i j x hi hj

/-- The cells of one packet in a row. -/
theorem pk_cells {w : World} {g n cap : Nat} {l : List Pk} {p : Pk} {i : Nat} (h : w.ownsRow 0 tPk 7 (.slice (some ⟨g, 0, none⟩) n cap) n (l.flatMap Pk.cells)) (hi : l[i]? = some p) :
    w.cell? ⟨g, i * 7, none⟩ = some (.int .u64 p.seq) ∧ w.cell? ⟨g, i * 7 + 1, none⟩ = some (.int .i64 p.src) ∧ w.cell? ⟨g, i * 7 + 2, none⟩ = some (.int .i64 p.dst) ∧ w.cell? ⟨g, i * 7 + 3, none⟩ = some (.int .i64 p.coin) ∧
    w.cell? ⟨g, i * 7 + 4, none⟩ = some (.int .u64 p.amount) ∧ w.cell? ⟨g, i * 7 + 5, none⟩ = some (.int .u64 p.height) ∧ w.cell? ⟨g, i * 7 + 6, none⟩ = some (.int .u64 p.time) := by
  have hc := h.cells (g := g) rfl
  have get : ∀ j v, p.cells[j]? = some v → w.cell? ⟨g, i * 7 + j, none⟩ = some v := by
    intro j v hv
    have hj : j < 7 := by have := (List.getElem?_eq_some_iff.1 hv).1; simpa [Pk.cells] using this
    have := hc (i * 7 + j) v (by rw [flat_get Pk.cells 7 (fun _ => rfl) l i j p hi hj]; exact hv)
    rw [Addr.add_lit] at this
    simpa using this
  exact ⟨get 0 _ rfl, get 1 _ rfl, get 2 _ rfl, get 3 _ rfl, get 4 _ rfl, get 5 _ rfl, get 6 _ rfl⟩

/-- What the loop of Look keeps. -/
structure LookRel (w wr : World) (S : Ch) (m k : Nat) (al : Option Addr) (cl : Nat) : Prop where
  g : w.grownBy wr none
  res : wr.heap[w.heap.size]? = some (.cells #[.int .u64 0, .int .u64 0, .int .u64 0, .bool false, .int .u64 0, .int .u64 0, .slice none 0 0, .int .u64 0, .int .u64 0] 112 (0, 0))
  blk : wr.heap[m]? = some (.cells #[.int .u64 S.hd.height, .int .u64 S.hd.time, .int .u64 S.known, .bool S.hd.isOpen, .int .u64 S.nextSend, .int .u64 S.hd.nextRecv, .slice al k cl, .int .u64 S.locked, .int .u64 S.about] 112 (0, 0))
  row : wr.ownsRow 0 26 1 (.slice al k cl) k ((S.hd.packets.map fun p => .int .u64 p.seq).take k)
  new : ∀ q, (Value.slice al k cl).ownBlock = some q → m < q

theorem look_step {w wr w4 : World} {S : Ch} {m k cl c4 : Nat} {al a4 : Option Addr} {p : Pk} {X Y : Obj} (R : LookRel w wr S m k al cl) (hm : w.heap.size < m) (hp : S.hd.packets[k]? = some p)
    (grow4 : ((wr.alloc X).alloc Y).grownBy w4 (Value.slice al k cl).ownBlock)
    (own4 : w4.ownsRow 0 26 1 (.slice a4 (k + 1) c4) (k + 1) ((S.hd.packets.map fun p => .int .u64 p.seq).take k ++ [.int .u64 p.seq]))
    (lab4 : fresh ((wr.alloc X).alloc Y) (.slice al k cl) (.slice a4 (k + 1) c4)) : LookRel w (w4.setCell ⟨m, 6, none⟩ (.slice a4 (k + 1) c4)) S m (k + 1) a4 c4 := by
  have hml := blk_lt R.blk
  have hmr : some m ≠ (Value.slice al k cl).ownBlock := fun e => by have := R.new m e.symm; omega
  have hwr : some w.heap.size ≠ (Value.slice al k cl).ownBlock := fun e => by have := R.new _ e.symm; omega
  have hB : w4.heap[m]? = _ := (grow4.block m (by simp; omega) hmr).trans ((heap_alloc_old _ _ (by simp; omega)).trans ((heap_alloc_old _ _ hml).trans R.blk))
  have hq : ∀ q, (Value.slice a4 (k + 1) c4).ownBlock = some q → m < q := by
    intro q e
    rcases lab4 q e with e1 | e1
    · exact R.new q e1
    · simp at e1; omega
  refine ⟨?_, ?_, ?_, ?_, hq⟩
  · exact grown_set (grown_trans (grown_alloc (grown_alloc R.g X) Y) grow4 (fun q e => .inr (by have := R.new q e; omega))) _ _ (.inr (by simp; omega))
  · rw [setCell_other _ _ _ (by simp; omega)]
    have hlt : w.heap.size < wr.heap.size := by omega
    exact (grow4.block _ (by simp; omega) hwr).trans ((heap_alloc_old _ _ (by simp; omega)).trans ((heap_alloc_old _ _ hlt).trans R.res))
  · rw [setCell_same hB]
    simp
  · have e : (S.hd.packets.map fun p => Value.int .u64 p.seq).take (k + 1) = (S.hd.packets.map fun p => Value.int .u64 p.seq).take k ++ [.int .u64 p.seq] := by
      rw [List.take_add_one]
      simp [hp]
    rw [e]
    exact owns_keep own4 fun q e1 => setCell_other _ _ _ (by have := hq q e1; simp; omega)

theorem src1 (w : World) (t : TypeId) (X : Obj) (x0 : Value) : srcRow ((w.alloc X).alloc (.cells #[x0] t)) 1 (.slice (some ⟨w.heap.size + 1, 0, none⟩) 1 1) 1 [x0] := by
  refine ⟨rfl, .inr ⟨_, _, rfl, ?_⟩⟩
  intro j u hj
  rw [Addr.add_lit]
  have h1 := heap_alloc_new (w.alloc X) (.cells #[x0] t)
  rw [size_alloc'] at h1
  rw [cell_of_row _ _ _ _ _ _ h1]
  simpa using hj

theorem blk9' {w : World} {b t : Nat} {x0 x1 x2 x3 x4 x5 x6 x7 x8 : Value} (h : w.heap[b]? = some (.cells #[x0, x1, x2, x3, x4, x5, x6, x7, x8] t (0, 0))) :
    w.cell? ⟨b, 0, none⟩ = some x0 ∧ w.cell? ⟨b, 1, none⟩ = some x1 ∧ w.cell? ⟨b, 2, none⟩ = some x2 ∧ w.cell? ⟨b, 3, none⟩ = some x3 ∧ w.cell? ⟨b, 4, none⟩ = some x4 ∧ w.cell? ⟨b, 5, none⟩ = some x5 ∧ w.cell? ⟨b, 6, none⟩ = some x6 ∧ w.cell? ⟨b, 7, none⟩ = some x7 ∧ w.cell? ⟨b, 8, none⟩ = some x8 ∧ (∀ k, w.frozen? ⟨b, k, none⟩ = false) := by
  refine ⟨?_, ?_, ?_, ?_, ?_, ?_, ?_, ?_, ?_, ?_⟩
  all_goals first
    | (intro k; simp [World.frozen?, h])
    | simp [World.cell?, h]

set_option maxRecDepth 100000 in
set_option maxHeartbeats 1600000 in
theorem rlook_some {own : Nat → Nat} {o : Nat} {w : World} {b : Nat} {S : Ch} {a : At} {gp : Nat} (h : RefCh own o w b S a) (hap : a.ap = some ⟨gp, 0, none⟩) (bp : S.hd.packets.length ≤ 1048576) (bk : S.known ≤ 1048576) :
    Calls Tryz.prog 38 #[.pointer (some ⟨b, 0, none⟩)] w fun e w' => ∃ (al : Option Addr) (cl : Nat), e = .returned (.agg #[.int .u64 S.hd.height, .int .u64 S.hd.time, .int .u64 S.known, .bool S.hd.isOpen, .int .u64 S.nextSend, .int .u64 S.hd.nextRecv, .slice al S.hd.packets.length cl, .int .u64 S.locked, .int .u64 S.about]) ∧
      w'.ownsRow 0 26 1 (.slice al S.hd.packets.length cl) S.hd.packets.length (S.hd.packets.map fun p => .int .u64 p.seq) ∧ w.grownBy w' none := by
  obtain ⟨c0, c1, c2, c3, c4, c5, c6, c7, c8, c9, c10, c11, c12, c13, c14, c15, c16, c17, hf⟩ := ch_cells h.blk
  have hbl : b < w.heap.size := blk_lt h.blk
  have w2 : IntKind.u64.wrap (S.known : Int) = S.known := wrapU_small (by omega) (by omega)
  go_enter Tryz.func38, Tryz.ntmps38
  go_wp2_with fail
  obtain ⟨w1, hw1⟩ : ∃ w1 : World, w1 = w.alloc (.cells #[.int .u64 0, .int .u64 0, .int .u64 0, .bool false, .int .u64 0, .int .u64 0, .slice none 0 0, .int .u64 0, .int .u64 0] 112) := ⟨_, rfl⟩
  rw [← hw1]
  have g1 : w.grownBy w1 none := by rw [hw1]; exact World.grownBy_alloc _ _ _
  have hX1 : w1.heap[w.heap.size]? = some (.cells #[.int .u64 0, .int .u64 0, .int .u64 0, .bool false, .int .u64 0, .int .u64 0, .slice none 0 0, .int .u64 0, .int .u64 0] 112 (0, 0)) := by rw [hw1]; exact heap_alloc_new w _
  have hR1 := (ref_same h g1).1
  have hz1 : w1.heap.size = w.heap.size + 1 := by rw [hw1]; simp
  have hzz : w.heap.size < w1.heap.size := by omega
  have hz1' := hz1
  clear hz1
  have HZ1 : Hid (w1.heap.size = w.heap.size + 1) := hz1'
  clear c0 c1 c2 c3 c4 c5 c6 c7 c8 c9 c10 c11 c12 c13 c14 c15 c16 c17 hf hw1 hz1'
  obtain ⟨c0, c1, c2, c3, c4, c5, c6, c7, c8, c9, c10, c11, c12, c13, c14, c15, c16, c17, hf⟩ := ch_cells hR1.blk
  have hbl1 : b < w1.heap.size := blk_lt hR1.blk
  rw [hap] at c4
  have hrow : w.ownsRow 0 tPk 7 (.slice (some ⟨gp, 0, none⟩) S.hd.packets.length a.cp) S.hd.packets.length (S.hd.packets.flatMap Pk.cells) := by have := h.pk; simp only [ownsPk, At.vp, hap] at this; exact this
  have HAP : Hid (a.ap = some ⟨gp, 0, none⟩) := hap
  clear hap
  obtain ⟨i0, hi0, z0, s0, y0⟩ := info_parts infoU64
  go_region_held3 (fun w' => w'.cell? ⟨b, 0, none⟩ = some (.int .u64 S.hd.height) ∧ w'.cell? ⟨b, 1, none⟩ = some (.int .u64 S.hd.time) ∧ w'.cell? ⟨b, 17, none⟩ = some (.int .i64 S.known) ∧ w'.cell? ⟨b, 2, none⟩ = some (.bool S.hd.isOpen) ∧ w'.cell? ⟨b, 15, none⟩ = some (.int .u64 S.nextSend) ∧ w'.cell? ⟨b, 3, none⟩ = some (.int .u64 S.hd.nextRecv) ∧ w'.cell? ⟨b, 13, none⟩ = some (.int .u64 S.locked) ∧ w'.cell? ⟨b, 14, none⟩ = some (.int .u64 S.about)) (go_keep) (fail)
  all_goals
    go_wp2_with fail
    go_loopw [50] (fun i wr => ∃ (k : Nat) (al : Option Addr) (cl : Nat), i = .int .i64 k ∧ k ≤ S.hd.packets.length ∧ LookRel w wr S w1.heap.size k al cl) (fun i _ => S.hd.packets.length - (intOf i).toNat)
    case atStart =>
      refine ⟨0, none, 0, rfl, Nat.zero_le _, ⟨grown_drew (grown_alloc g1 _), ?_, ?_, ?_, ?_⟩⟩
      · exact (heap_alloc_old w1 _ hzz).trans hX1
      · exact heap_alloc_new w1 _
      · simpa using World.ownsRow_nil _ _ _ _
      · intro q e; simp [Value.ownBlock] at e
    case round =>
      obtain ⟨k, al, cl, rfl, hk, R⟩ := hrel
      by_cases hlt : k < S.hd.packets.length
      · obtain ⟨p, hp⟩ : ∃ p, S.hd.packets[k]? = some p := ⟨_, List.getElem?_eq_getElem hlt⟩
        have hgp : gp < w.heap.size := owns_lt hrow rfl
        have hrow2 : wr.ownsRow 0 tPk 7 (.slice (some ⟨gp, 0, none⟩) S.hd.packets.length a.cp) S.hd.packets.length (S.hd.packets.flatMap Pk.cells) := owns_keep hrow fun q e => R.g.block q (owns_lt hrow e) (by simp)
        obtain ⟨p0, p1, p2, p3, p4, p5, p6⟩ := pk_cells hrow2 hp
        obtain ⟨y0', y1', y2', y3', y4', y5', y6', y7', y8', yf'⟩ := blk9' R.blk
        have hwr : w1.heap.size < wr.heap.size := blk_lt R.blk
        have hgr : gp < wr.heap.size := by have := R.g.size; omega
        have hkl : (k : Int) < (S.hd.packets.length : Int) := by omega
        clear hrow2
        go_wp2_with (at_builtin; refine wpList_append_rows rfl (.tmp 55) (.tmp 58) 81 rfl 26 i0 _ 1 8 Tryz.underlying81 hi0 z0 s0 y0 rfl (by decide) (.slice al k cl) k ((S.hd.packets.map fun p => .int .u64 p.seq).take k) rfl ?ho (.slice (some ⟨wr.heap.size + 1, 0, none⟩) 1 1) 1 [.int .u64 p.seq] rfl ?hs ?h1 ?hb1 ?hb2 ?_)
        case ho => exact (R.row.alloc _).alloc _
        case hs => exact src1 _ _ _ _
        case h1 => intro u hu; simp at hu; subst hu; rfl
        case hb1 => omega
        case hb2 => omega
        intro v4 w4 own4 grow4 lab4
        obtain ⟨a4, c4', hv4⟩ := owns_form own4
        subst hv4
        have R4 := look_step R hzz hp grow4 own4 lab4
        have hmr : some w1.heap.size ≠ (Value.slice al k cl).ownBlock := fun e => by have := R.new _ e.symm; omega
        have hB4 := (grow4.block w1.heap.size (by simp; omega) hmr).trans ((heap_alloc_old _ _ (by simp; omega)).trans ((heap_alloc_old _ _ hwr).trans R.blk))
        clear y0' y1' y2' y3' y4' y5' y6' y7' y8' yf' p0 p1 p2 p3 p4 p5 p6 own4 grow4 lab4
        obtain ⟨y0', y1', y2', y3', y4', y5', y6', y7', y8', yf'⟩ := blk9' hB4
        go_wp2_with fail
        go_roundw
        case rel => exact ⟨k + 1, a4, c4', by go_num, by omega, R4⟩
        case measure => simp [intOf]; omega
      · obtain rfl : k = S.hd.packets.length := by omega
        obtain ⟨y0', y1', y2', y3', y4', y5', y6', y7', y8', yf'⟩ := blk9' R.blk
        obtain ⟨q0, q1, q2, q3, q4, q5, q6, q7, q8, qf⟩ := blk9' R.res
        go_wp2_with fail
        refine bodyPost_ret (v := .agg #[.int .u64 S.hd.height, .int .u64 S.hd.time, .int .u64 S.known, .bool S.hd.isOpen, .int .u64 S.nextSend, .int .u64 S.hd.nextRecv, .slice al S.hd.packets.length cl, .int .u64 S.locked, .int .u64 S.about]) (by simp [results, Tryz.results38, go_sem, q0, q1, q2, q3, q4, q5, q6, q7, q8]) rfl ⟨al, cl, rfl, ?_, ?_⟩
        · have hrw : w1.heap.size < wr.heap.size := blk_lt R.blk
          have hr := R.row
          rw [List.take_of_length_le (by simp)] at hr
          refine owns_keep hr fun q e1 => ?_
          have := R.new q e1
          repeat rw [setCell_other _ _ _ (by simp; omega)]
        · repeat (refine grown_set ?_ _ _ (.inr (Nat.le_refl _)))
          exact R.g

set_option maxRecDepth 100000 in
set_option maxHeartbeats 1600000 in
theorem rlook_nil {own : Nat → Nat} {o : Nat} {w : World} {b : Nat} {S : Ch} {a : At} (h : RefCh own o w b S a) (hn : S.hd.packets = []) (bk : S.known ≤ 1048576) :
    Calls Tryz.prog 38 #[.pointer (some ⟨b, 0, none⟩)] w fun e w' => e = .returned (.agg #[.int .u64 S.hd.height, .int .u64 S.hd.time, .int .u64 S.known, .bool S.hd.isOpen, .int .u64 S.nextSend, .int .u64 S.hd.nextRecv, .slice none 0 0, .int .u64 S.locked, .int .u64 S.about]) ∧ w.grownBy w' none := by
  obtain ⟨c0, c1, c2, c3, c4, c5, c6, c7, c8, c9, c10, c11, c12, c13, c14, c15, c16, c17, hf⟩ := ch_cells h.blk
  have hbl : b < w.heap.size := blk_lt h.blk
  have w2 : IntKind.u64.wrap (S.known : Int) = S.known := wrapU_small (by omega) (by omega)
  rw [hn, List.length_nil] at c4
  have HN : Hid (S.hd.packets = []) := hn
  clear hn
  go_enter Tryz.func38, Tryz.ntmps38
  go_wp2_with fail
  obtain ⟨w1, hw1⟩ : ∃ w1 : World, w1 = w.alloc (.cells #[.int .u64 0, .int .u64 0, .int .u64 0, .bool false, .int .u64 0, .int .u64 0, .slice none 0 0, .int .u64 0, .int .u64 0] 112) := ⟨_, rfl⟩
  rw [← hw1]
  have g1 : w.grownBy w1 none := by rw [hw1]; exact World.grownBy_alloc _ _ _
  have hX1 : w1.heap[w.heap.size]? = some (.cells #[.int .u64 0, .int .u64 0, .int .u64 0, .bool false, .int .u64 0, .int .u64 0, .slice none 0 0, .int .u64 0, .int .u64 0] 112 (0, 0)) := by rw [hw1]; exact heap_alloc_new w _
  have hzz : w.heap.size < w1.heap.size := blk_lt hX1
  have hcell : ∀ j v, w.cell? ⟨b, j, none⟩ = some v → w1.cell? ⟨b, j, none⟩ = some v := fun j v hv => (World.cell?_of_block (g1.block b hbl (by simp))).trans hv
  replace c0 := hcell _ _ c0
  replace c1 := hcell _ _ c1
  replace c2 := hcell _ _ c2
  replace c3 := hcell _ _ c3
  replace c4 := hcell _ _ c4
  replace c13 := hcell _ _ c13
  replace c14 := hcell _ _ c14
  replace c15 := hcell _ _ c15
  replace c17 := hcell _ _ c17
  obtain ⟨q0, q1, q2, q3, q4, q5, q6, q7, q8, qf⟩ := blk9' hX1
  clear c5 c6 c7 c8 c9 c10 c11 c12 c16 hf hw1 hcell
  have hbl1 : b < w1.heap.size := by omega
  go_region_held3 (fun w' => w'.cell? ⟨b, 0, none⟩ = some (.int .u64 S.hd.height) ∧ w'.cell? ⟨b, 1, none⟩ = some (.int .u64 S.hd.time) ∧ w'.cell? ⟨b, 17, none⟩ = some (.int .i64 S.known) ∧ w'.cell? ⟨b, 2, none⟩ = some (.bool S.hd.isOpen) ∧ w'.cell? ⟨b, 15, none⟩ = some (.int .u64 S.nextSend) ∧ w'.cell? ⟨b, 3, none⟩ = some (.int .u64 S.hd.nextRecv) ∧ w'.cell? ⟨b, 13, none⟩ = some (.int .u64 S.locked) ∧ w'.cell? ⟨b, 14, none⟩ = some (.int .u64 S.about)) (go_keep) (fail)
  all_goals
    go_wp2_with fail
    refine wp_loop_rounds 1 ?_
    rw [rounds_succ]
    go_wp2_with fail
    refine bodyPost_ret (v := .agg #[.int .u64 S.hd.height, .int .u64 S.hd.time, .int .u64 S.known, .bool S.hd.isOpen, .int .u64 S.nextSend, .int .u64 S.hd.nextRecv, .slice none 0 0, .int .u64 S.locked, .int .u64 S.about]) (by simp [results, Tryz.results38, go_sem, q0, q1, q2, q3, q4, q5, q6, q7, q8, hzz]) rfl ⟨rfl, ?_⟩
    refine grown_drew (grown_alloc ?_ _)
    repeat (refine grown_set ?_ _ _ (.inr (Nat.le_refl _)))
    exact g1

theorem rlook {own : Nat → Nat} {o : Nat} {w : World} {b : Nat} {S : Ch} {a : At} (h : RefCh own o w b S a) (bp : S.hd.packets.length ≤ 1048576) (bk : S.known ≤ 1048576) :
    Calls Tryz.prog 38 #[.pointer (some ⟨b, 0, none⟩)] w fun e w' => ∃ (al : Option Addr) (cl : Nat), e = .returned (.agg #[.int .u64 S.hd.height, .int .u64 S.hd.time, .int .u64 S.known, .bool S.hd.isOpen, .int .u64 S.nextSend, .int .u64 S.hd.nextRecv, .slice al S.hd.packets.length cl, .int .u64 S.locked, .int .u64 S.about]) ∧
      w'.ownsRow 0 26 1 (.slice al S.hd.packets.length cl) S.hd.packets.length (S.hd.packets.map fun p => .int .u64 p.seq) ∧ w.grownBy w' none := by
  by_cases hn : S.hd.packets = []
  · refine (rlook_nil h hn bk).mono ?_
    rintro e w' ⟨he, hg⟩
    refine ⟨none, 0, ?_, ?_, hg⟩
    · rw [he, hn]; rfl
    · rw [hn]; exact World.ownsRow_nil _ _ _ _
  · obtain ⟨gp, hap, _⟩ := owns_some' h.pk (List.length_pos_iff.2 hn)
    exact rlook_some h hap bp bk

end Go.Proofs.YtmfdhcnnhlchbaaGreat

namespace Go.Proofs.YtmfdhcnnhlchbaaGreat
open Go.RowKit

set_option maxRecDepth 100000 in
set_option maxHeartbeats 800000 in
theorem rhead (K : HdV) (w : World) : Calls Tryz.prog 26 #[hdrAgg K] w fun e w' => e = .returned (headAgg K.hd) ∧ w.grownBy w' none := by
  go_enter Tryz.func26, Tryz.ntmps26
  go_wp2_with fail
  refine bodyPost_ret (v := headAgg K.hd) (by simp [results, Tryz.results26, go_sem]) rfl ⟨rfl, ?_⟩
  exact grown_alloc (World.grownBy_alloc _ _ _) _

set_option maxRecDepth 100000 in
set_option maxHeartbeats 800000 in
theorem rnew_no {w : World} {coins : Int} (hc : (1152921504606846976 : Int) < coins) :
    Calls Tryz.prog 19 #[.int .u64 coins] w fun e w' => e = .returned (.tuple #[.pointer none, .bool false]) ∧ w' = w := by
  go_enter Tryz.func19, Tryz.ntmps19
  go_wp2_with fail
  go_ret2
  exact ⟨rfl, rfl⟩

set_option maxHeartbeats 400000 in
theorem pick_any (c : Int) (n : Nat) (w : World) (hn : 0 < n) (hn2 : n < 1099511627776) (hc : -9223372036854775808 ≤ c ∧ c ≤ 9223372036854775807) :
    Calls Tryz.prog 20 #[.int .i64 c, .int .i64 n] w fun e w' => ∃ k : Nat, k < n ∧ e = .returned (.int .i64 k) ∧ w' = w := by
  by_cases h : c < 0
  · go_enter Tryz.func20, Tryz.ntmps20
    go_wp2
    go_ret
    refine ⟨((-(c + 1)).tmod n).toNat, ?_, ?_, rfl⟩
    · rw [Int.tmod_eq_emod_of_nonneg (by omega)]
      have := Int.emod_lt_of_pos (-(c + 1)) (show (0 : Int) < n by omega)
      have := Int.emod_nonneg (-(c + 1)) (show (n : Int) ≠ 0 by omega)
      omega
    · have h1 : 0 ≤ (-(c + 1)).tmod n := by rw [Int.tmod_eq_emod_of_nonneg (by omega)]; exact Int.emod_nonneg _ (by omega)
      rw [Int.toNat_of_nonneg h1]
      simp
  · go_enter Tryz.func20, Tryz.ntmps20
    go_wp2
    go_ret
    refine ⟨(c % n).toNat, ?_, ?_, rfl⟩
    · have := Int.emod_lt_of_pos c (show (0 : Int) < n by omega)
      have := Int.emod_nonneg c (show (n : Int) ≠ 0 by omega)
      omega
    · rw [Int.toNat_of_nonneg (Int.emod_nonneg _ (by omega))]
      simp

/-- A step of a script, as it is handed in: the two lists of steps as they lie. -/
structure OpV where
  kind : Int
  a : Int
  c : Int
  k : Int
  n : Int
  p : Pk
  vl : Option Addr
  nl : Nat
  cl : Nat
  vm : Option Addr
  nm : Nat
  cm : Nat
  num : Int
  d : Int

abbrev OpV.agg (o : OpV) : Value := .agg #[.int .i64 o.kind, .int .i64 o.a, .int .i64 o.c, .int .i64 o.k, .int .u64 o.n, .int .u64 o.p.seq, .int .i64 o.p.src, .int .i64 o.p.dst, .int .i64 o.p.coin, .int .u64 o.p.amount, .int .u64 o.p.height, .int .u64 o.p.time,
  .slice o.vl o.nl o.cl, .slice o.vm o.nm o.cm, .int .u64 o.num, .int .i64 o.d]

/-- Is a step played? (Of the statements on packets that are sent.) -/
def played1 (o : OpV) : Bool := o.kind != 8 && (o.kind != 2 || o.k == 1 || o.k == 2)

set_option maxRecDepth 100000 in
set_option maxHeartbeats 1600000 in
theorem played_sends (o : OpV) (only : Int) (w : World) (ho : only = 1 ∨ only = 4 ∨ only = 6) :
    Calls Tryz.prog 14 #[o.agg, .int .i64 only] w fun e w' => e = .returned (.bool (played1 o)) ∧ w.grownBy w' none := by
  unfold played1
  rcases ho with rfl | rfl | rfl
  all_goals
    cases e1 : (o.kind != 8)
    · go_enter Tryz.func14, Tryz.ntmps14
      go_wp2
      go_ret
      exact ⟨rfl, World.grownBy_alloc _ _ _⟩
    cases e2 : (o.kind != 2)
    · cases e3 : (o.k == 1)
      · go_enter Tryz.func14, Tryz.ntmps14
        go_wp2
        go_ret
        exact ⟨rfl, World.grownBy_alloc _ _ _⟩
      · go_enter Tryz.func14, Tryz.ntmps14
        go_wp2
        go_ret
        exact ⟨rfl, World.grownBy_alloc _ _ _⟩
    · go_enter Tryz.func14, Tryz.ntmps14
      go_wp2
      go_ret
      exact ⟨rfl, World.grownBy_alloc _ _ _⟩

end Go.Proofs.YtmfdhcnnhlchbaaGreat

namespace Go.Proofs.YtmfdhcnnhlchbaaGreat
open Go.RowKit

/-- One number in a row of numbers. -/
theorem num_cell {w : World} {e g n c i : Nat} {k : IntKind} {xs : List Int} {x : Int} (h : w.ownsRow 0 e 1 (.slice (some ⟨g, 0, none⟩) n c) n (xs.map (Value.int k))) (hi : xs[i]? = some x) : w.cell? ⟨g, i, none⟩ = some (.int k x) := by
  have := h.cells (g := g) rfl i (.int k x) (by simp [hi])
  rw [Addr.add_lit] at this
  simpa using this

set_option maxRecDepth 100000 in
set_option maxHeartbeats 800000 in
theorem same_some {w : World} {g1 g2 n c1 c2 : Nat} {xs : List Int} (h1 : w.ownsRow 0 26 1 (.slice (some ⟨g1, 0, none⟩) n c1) n (xs.map (Value.int .u64))) (h2 : w.ownsRow 0 26 1 (.slice (some ⟨g2, 0, none⟩) n c2) n (xs.map (Value.int .u64))) (hb : n ≤ 1048576) :
    Calls Tryz.prog 39 #[.slice (some ⟨g1, 0, none⟩) n c1, .slice (some ⟨g2, 0, none⟩) n c2] w fun e w' => e = .returned (.bool true) ∧ w.grownBy w' none := by
  have hx : xs.length = n := by have := h1.1; simpa using this
  go_enter Tryz.func39, Tryz.ntmps39
  go_wp2_with fail
  go_loopw [13] (fun i wr => ∃ k m : Nat, i = .int .i64 k ∧ k ≤ n ∧ wr = w.drewN m) (fun i _ => n - (intOf i).toNat)
  case atStart => exact ⟨0, 0, rfl, Nat.zero_le _, rfl⟩
  case round =>
    obtain ⟨k, m, rfl, hk, rfl⟩ := hrel
    by_cases hlt : k < n
    · obtain ⟨x, hp⟩ : ∃ x, xs[k]? = some x := ⟨_, List.getElem?_eq_getElem (by omega)⟩
      have e1 := num_cell h1 hp
      have e2 := num_cell h2 hp
      have hkl : (k : Int) < (n : Int) := by omega
      clear hp
      go_wp2_with fail
      go_quiet (fail)
      go_wp2_with fail
      go_roundw
      case rel => exact ⟨k + 1, _, by go_num, by omega, rfl⟩
      case measure => simp [intOf]; omega
    · go_wp2_with fail
      go_ret
      exact ⟨rfl, grown_drewN (grown_refl _ _) _⟩

set_option maxRecDepth 100000 in
set_option maxHeartbeats 800000 in
theorem same_nil {w : World} {a1 a2 : Option Addr} {c1 c2 : Nat} :
    Calls Tryz.prog 39 #[.slice a1 0 c1, .slice a2 0 c2] w fun e w' => e = .returned (.bool true) ∧ w' = w := by
  go_enter Tryz.func39, Tryz.ntmps39
  go_wp2_with fail
  refine wp_loop_rounds 1 ?_
  rw [rounds_succ]
  go_wp2_with fail
  go_ret
  exact ⟨rfl, rfl⟩

theorem same_eq {w : World} {a1 a2 : Option Addr} {n c1 c2 : Nat} {xs : List Int} (h1 : w.ownsRow 0 26 1 (.slice a1 n c1) n (xs.map (Value.int .u64))) (h2 : w.ownsRow 0 26 1 (.slice a2 n c2) n (xs.map (Value.int .u64))) (hb : n ≤ 1048576) :
    Calls Tryz.prog 39 #[.slice a1 n c1, .slice a2 n c2] w fun e w' => e = .returned (.bool true) ∧ w.grownBy w' none := by
  by_cases hn : n = 0
  · subst hn
    refine same_nil.mono ?_
    rintro e w' ⟨he, rfl⟩
    exact ⟨he, grown_refl _ _⟩
  · obtain ⟨g1, rfl, _⟩ := owns_some' h1 (by omega)
    obtain ⟨g2, rfl, _⟩ := owns_some' h2 (by omega)
    exact same_some h1 h2 hb

end Go.Proofs.YtmfdhcnnhlchbaaGreat

namespace Go.Proofs.YtmfdhcnnhlchbaaGreat
open Go.RowKit

theorem infoSl : (Tryz.prog.info? 81).map (fun i => (i.zero, i.size, i.bytes)) = some (some (.slice none 0 0), 1, 24) := by kernel_rfl
theorem infoPair : (Tryz.prog.info? 52).map (fun i => (i.zero, i.size, i.bytes)) = some (some (.agg #[.pointer none, .pointer none]), 2, 16) := by kernel_rfl

abbrev tWorld : TypeId := 39
abbrev tSl : TypeId := 81
abbrev tPair : TypeId := 52

def pairCells (x : Nat × Nat) : List Value := [.pointer (some ⟨x.1, 0, none⟩), .pointer (some ⟨x.2, 0, none⟩)]

/-- Where the law's own world lies. -/
structure WAt where
  ab : Option Addr
  cb : Nat
  al : Option Addr
  nl : Nat
  cl : Nat
  ae : Option Addr
  ne : Nat
  ce : Nat

structure WRep (own : Nat → Nat) (w : World) (W : Nat) (ps : List (Nat × Nat)) (ls : List Value) (a : WAt) : Prop where
  blk : w.heap[W]? = some (.cells #[.slice a.ab ps.length a.cb, .slice a.al a.nl a.cl, .slice a.ae a.ne a.ce, .bool false] tWorld (0, 0))
  lb : own W = 1
  bs : w.ownsRow 0 tPair 2 (.slice a.ab ps.length a.cb) ps.length (ps.flatMap pairCells)
  lbs : labelled own (.slice a.ab ps.length a.cb) 1
  ls : w.ownsRow 0 tSl 1 (.slice a.al a.nl a.cl) a.nl ls
  lls : labelled own (.slice a.al a.nl a.cl) 1

theorem WRep.keepS {own own' : Nat → Nat} {w w' : World} {W : Nat} {ps : List (Nat × Nat)} {ls : List Value} {a : WAt} {T : Nat → Prop} (h : WRep own w W ps ls a) (g : StepS T own own' w w') (h1 : ¬ T 1) : WRep own' w' W ps ls a := by
  have hb := blk_lt h.blk
  exact ⟨(g.block W hb (by rw [h.lb]; exact h1)).trans h.blk, (g.label W hb).trans h.lb,
    owns_keep h.bs fun k e => g.block k (owns_lt h.bs e) (by rw [h.lbs k e]; exact h1), fun k e => (g.label k (owns_lt h.bs e)).trans (h.lbs k e),
    owns_keep h.ls fun k e => g.block k (owns_lt h.ls e) (by rw [h.lls k e]; exact h1), fun k e => (g.label k (owns_lt h.ls e)).trans (h.lls k e)⟩

theorem blk4 {w : World} {b t : Nat} {x0 x1 x2 x3 : Value} (h : w.heap[b]? = some (.cells #[x0, x1, x2, x3] t (0, 0))) :
    w.cell? ⟨b, 0, none⟩ = some x0 ∧ w.cell? ⟨b, 1, none⟩ = some x1 ∧ w.cell? ⟨b, 2, none⟩ = some x2 ∧ w.cell? ⟨b, 3, none⟩ = some x3 ∧ (∀ k, w.frozen? ⟨b, k, none⟩ = false) := by
  refine ⟨?_, ?_, ?_, ?_, ?_⟩
  all_goals first
    | (intro k; simp [World.frozen?, h])
    | simp [World.cell?, h]

/-- One cell of a row is written. -/
theorem owns_set {w : World} {e g n c i : Nat} {xs : List Value} (h : w.ownsRow 0 e 1 (.slice (some ⟨g, 0, none⟩) n c) n xs) (u : Value) : (w.setCell ⟨g, i, none⟩ u).ownsRow 0 e 1 (.slice (some ⟨g, 0, none⟩) n c) n (xs.set i u) := by
  refine ⟨by simpa using h.1, .inr ?_⟩
  rcases h.2 with ⟨e1, _⟩ | ⟨g', cap, cur, e1, _, hg, h1, h2, h3, h4⟩
  · simp at e1
  · simp at e1
    obtain ⟨rfl, rfl⟩ := e1
    refine ⟨g, c, cur.setIfInBounds i u, rfl, Nat.zero_le _, setCell_same hg i u, h1, h2, by simpa using h3, ?_⟩
    rw [Array.toList_setIfInBounds, List.take_set, h4]

theorem row_blk {w : World} {e g n c : Nat} {xs : List Value} (h : w.ownsRow 0 e 1 (.slice (some ⟨g, 0, none⟩) n c) n xs) {i : Nat} (hi : i < n) : (∃ v, w.cell? ⟨g, i, none⟩ = some v) ∧ w.frozen? ⟨g, i, none⟩ = false := by
  rcases h.2 with ⟨e1, _⟩ | ⟨g', cap, cur, e1, _, hg, h1, h2, h3, h4⟩
  · simp at e1
  · simp at e1
    obtain ⟨rfl, rfl⟩ := e1
    have : i < cur.size := by omega
    exact ⟨⟨cur[i], by simp [World.cell?, hg, this]⟩, by simp [World.frozen?, hg]⟩

theorem put_next {M : Value} {xs : List Value} {k n : Nat} (hx : xs.length = n) (hk : k < n) : (List.replicate k M ++ xs.drop k).set k M = List.replicate (k + 1) M ++ xs.drop (k + 1) := by
  apply List.ext_getElem?
  intro i
  rw [List.getElem?_set]
  by_cases h1 : i < k
  · rw [if_neg (by omega), List.getElem?_append_left (by simpa using h1), List.getElem?_append_left (by simp; omega)]
    simp [h1, show i < k + 1 by omega]
  · by_cases h2 : i = k
    · subst h2
      rw [if_pos rfl, List.getElem?_append_left (by simp)]
      simp
      omega
    · rw [if_neg (by omega), List.getElem?_append_right (by simp; omega), List.getElem?_append_right (by simp; omega)]
      simp only [List.length_replicate, List.getElem?_drop]
      congr 1
      omega

/-- What mine has left: the list that was handed out is the caller's, each place with the mark; the law's own lists have one more. -/
def MineTo (own : Nat → Nat) (w : World) (W : Nat) (ps : List (Nat × Nat)) (ls : List Value) (a : WAt) (n : Nat) (og : Option Nat) (w' : World) : Prop :=
  ∃ own' al' cl' a2 c2, WRep own' w' W ps (ls ++ [.slice a2 (n + 2) c2]) { a with al := al', nl := a.nl + 1, cl := cl' } ∧
    w'.ownsRow 0 tU64 1 (.slice a2 (n + 2) c2) (n + 2) (List.replicate (n + 2) (.int .u64 (9223372036854775808 + a.nl))) ∧ labelled own' (.slice a2 (n + 2) c2) 2 ∧
    (∀ k, (Value.slice a2 (n + 2) c2).ownBlock = some k → og = some k ∨ w.heap.size ≤ k) ∧
    StepS (fun l => l = 1 ∨ l = 2) own own' w w' ∧ (∀ k, k < w.heap.size → own k ≠ 1 → some k ≠ og → w'.heap[k]? = w.heap[k]?)

theorem mine_done {own : Nat → Nat} {w w1 w2 w3 : World} {W n : Nat} {ps : List (Nat × Nat)} {ls : List Value} {a : WAt} {og : Option Nat} {X Y : Obj} {v1 : Value} {a2 a3 : Option Addr} {c2 c3 : Nat} (h : WRep own w W ps ls a)
    (lg : ∀ k, og = some k → own k = 2) (hg : ∀ k, og = some k → k < w.heap.size) (g1 : w.grownBy w1 og) (hv1 : v1.ownBlock = og)
    (grow2 : (w1.alloc X).grownBy w2 v1.ownBlock) (own2 : w2.ownsRow 0 tU64 1 (.slice a2 (n + 2) c2) (n + 2) (List.replicate (n + 2) (.int .u64 (9223372036854775808 + a.nl)))) (lab2 : fresh (w1.alloc X) v1 (.slice a2 (n + 2) c2))
    (grow3 : (w2.alloc Y).grownBy w3 (Value.slice a.al a.nl a.cl).ownBlock) (own3 : w3.ownsRow 0 tSl 1 (.slice a3 (a.nl + 1) c3) (a.nl + 1) (ls ++ [.slice a2 (n + 2) c2])) (lab3 : fresh (w2.alloc Y) (.slice a.al a.nl a.cl) (.slice a3 (a.nl + 1) c3)) :
    MineTo own w W ps ls a n og (w3.setCell ⟨W, 1, none⟩ (.slice a3 (a.nl + 1) c3)) := by
  subst hv1
  have hW := blk_lt h.blk
  have s1 := g1.size
  have s2 : w1.heap.size + 1 ≤ w2.heap.size := by have := grow2.size; simp at this; exact this
  have s3 : w2.heap.size + 1 ≤ w3.heap.size := by have := grow3.size; simp at this; exact this
  have far : ∀ k, k < w.heap.size → some k ≠ v1.ownBlock → some k ≠ (Value.slice a.al a.nl a.cl).ownBlock → w3.heap[k]? = w.heap[k]? := by
    intro k hk e1 e2
    rw [grow3.block k (by simp; omega) e2, heap_alloc_old _ _ (by omega), grow2.block k (by simp; omega) e1, heap_alloc_old _ _ (by omega), g1.block k hk e1]
  have one : ∀ k, own k = 1 → some k ≠ v1.ownBlock := fun k e e1 => by have := lg k e1.symm; omega
  have hWl : some W ≠ (Value.slice a.al a.nl a.cl).ownBlock := owns_ne h.blk h.ls (by decide)
  have hB3 : w3.heap[W]? = _ := (far W hW (one W h.lb) hWl).trans h.blk
  have hW3 : some W ≠ (Value.slice a3 (a.nl + 1) c3).ownBlock := owns_ne hB3 own3 (by decide)
  have lt2 : ∀ k, (Value.slice a2 (n + 2) c2).ownBlock = some k → k < w2.heap.size := fun k e => owns_lt own2 e
  have two : ∀ k, (Value.slice a2 (n + 2) c2).ownBlock = some k → v1.ownBlock = some k ∨ w.heap.size ≤ k := by
    intro k e
    rcases lab2 k e with e1 | e1
    · exact .inl e1
    · simp at e1; exact .inr (by omega)
  have three : ∀ k, (Value.slice a3 (a.nl + 1) c3).ownBlock = some k → own k = 1 ∧ k < w.heap.size ∨ w2.heap.size ≤ k := by
    intro k e
    rcases lab3 k e with e1 | e1
    · exact .inl ⟨h.lls k e1, owns_lt h.ls e1⟩
    · simp at e1; exact .inr (by omega)
  have keep : ∀ k, k < w.heap.size → own k ≠ 1 → some k ≠ v1.ownBlock → (w3.setCell ⟨W, 1, none⟩ (.slice a3 (a.nl + 1) c3)).heap[k]? = w.heap[k]? := by
    intro k hk e1 e2
    rw [setCell_other _ _ _ (fun e => e1 (by rw [e]; exact h.lb)), far k hk e2 (fun e => e1 (h.lls k e.symm))]
  refine ⟨fun k => if k < w.heap.size then own k else if some k = (Value.slice a2 (n + 2) c2).ownBlock then 2 else 1, a3, c3, a2, c2, ⟨?_, ?_, ?_, ?_, ?_, ?_⟩, ?_, ?_, two, ⟨?_, ?_, ?_, ?_, ?_, ?_⟩, keep⟩
  · rw [setCell_same hB3]
    simp
  · simp [hW, h.lb]
  · refine owns_keep h.bs fun k e => ?_
    have hk := owns_lt h.bs e
    rw [setCell_other _ _ _ (fun e1 => owns_ne h.blk h.bs (by decide) (by rw [e, e1])), far k hk (one k (h.lbs k e)) (row_apart h.bs h.ls (by decide) k e)]
  · intro k e
    simp [owns_lt h.bs e, h.lbs k e]
  · exact owns_keep own3 fun k e => setCell_other _ _ _ (fun e1 => hW3 (by rw [e]; exact congrArg some e1.symm))
  · intro k e
    rcases three k e with ⟨e1, e2⟩ | e1
    · simp [e1, e2]
    · simp only
      rw [if_neg (by omega), if_neg (fun e2 => by have := lt2 k e2.symm; omega)]
  · refine owns_keep own2 fun k e => ?_
    have hk := lt2 k e
    have hkW : k ≠ W := fun e1 => by
      rcases two k e with e2 | e2
      · exact one W h.lb (by rw [← e1, e2])
      · omega
    rw [setCell_other _ _ _ hkW, grow3.block k (by simp; omega) (fun e1 => ?_), heap_alloc_old _ _ hk]
    rcases two k e with e2 | e2
    · exact one k (h.lls k e1.symm) e2.symm
    · have := owns_lt h.ls e1.symm; omega
  · intro k e
    by_cases hk : k < w.heap.size
    · simp only [hk, if_true]
      rcases two k e with e2 | e2
      · exact lg k e2
      · omega
    · simp [hk, e]
  · exact grow3.os.trans (grow2.os.trans g1.os)
  · exact grow3.tape.trans (grow2.tape.trans g1.tape)
  · exact grow3.output.trans (grow2.output.trans g1.output)
  · rw [setCell_size]; omega
  · intro k hk; simp [hk]
  · intro k hk hne
    exact keep k hk (fun e => hne (.inl e)) (fun e => hne (.inr (lg k e.symm)))

end Go.Proofs.YtmfdhcnnhlchbaaGreat
