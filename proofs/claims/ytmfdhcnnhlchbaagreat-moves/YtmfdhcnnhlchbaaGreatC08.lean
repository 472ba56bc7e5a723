import Derived.Test.YtmfdhcnnhlchbaaGreatC06
import Derived.Test.YtmfdhcnnhlchbaaGreatC07
import Derived.Carry
import Derived.Deep.Slices
import Derived.ProofKit
import Derived.OpenShut
import Derived.SizedLaws
namespace Go.Proofs.YtmfdhcnnhlchbaaGreat
open Go.RowKit

/-- What played answers, as far as it matters: no Run is played. -/
def PlayPost (o : OpV) (w : World) (e : Ending) (w' : World) : Prop := ∃ r : Bool, e = .returned (.bool r) ∧ (r = true → o.kind ≠ 8) ∧ w.grownBy w' none

theorem PlayPost.mk {o : OpV} {w w' : World} {r : Bool} (h : r = true → o.kind ≠ 8) (g : w.grownBy w' none) : PlayPost o w (.returned (.bool r)) w' := ⟨r, rfl, h, g⟩

section
variable (o : OpV) (w : World)

theorem played146 (only : Int) (ho : only = 1 ∨ only = 4 ∨ only = 6) : Calls Tryz.prog 14 #[o.agg, .int .i64 only] w (PlayPost o w) :=
  (played_sends o only w ho).mono (by
    rintro e w' ⟨rfl, g⟩
    refine PlayPost.mk (fun h => ?_) g
    unfold played1 at h
    intro e8
    simp [e8] at h)

set_option maxRecDepth 100000 in
set_option maxHeartbeats 1600000 in
theorem played25 (only : Int) (ho : only = 2 ∨ only = 5) : Calls Tryz.prog 14 #[o.agg, .int .i64 only] w (PlayPost o w) := by
  rcases ho with rfl | rfl
  all_goals
    cases e1 : (o.kind != 8)
    · go_enter Tryz.func14, Tryz.ntmps14
      go_wp2
      go_ret
      exact PlayPost.mk (fun h => by cases h) (World.grownBy_alloc _ _ _)
    have h8 : o.kind ≠ 8 := by simpa using e1
    have H8 : Hid (o.kind ≠ 8) := h8
    clear h8
    cases e2 : (o.kind != 2)
    · cases e3 : (o.k == 1)
      · cases e4 : (o.k == 2)
        · cases e5 : (o.k == 3)
          · cases e6 : (o.k == 4)
            · cases e7 : (o.k == 5)
              · go_enter Tryz.func14, Tryz.ntmps14
                go_wp2
                go_ret
                exact PlayPost.mk (fun _ => H8.out) (World.grownBy_alloc _ _ _)
              · go_enter Tryz.func14, Tryz.ntmps14
                go_wp2
                go_ret
                exact PlayPost.mk (fun _ => H8.out) (World.grownBy_alloc _ _ _)
            · go_enter Tryz.func14, Tryz.ntmps14
              go_wp2
              go_ret
              exact PlayPost.mk (fun _ => H8.out) (World.grownBy_alloc _ _ _)
          · go_enter Tryz.func14, Tryz.ntmps14
            go_wp2
            go_ret
            exact PlayPost.mk (fun _ => H8.out) (World.grownBy_alloc _ _ _)
        · go_enter Tryz.func14, Tryz.ntmps14
          go_wp2
          go_ret
          exact PlayPost.mk (fun _ => H8.out) (World.grownBy_alloc _ _ _)
      · go_enter Tryz.func14, Tryz.ntmps14
        go_wp2
        go_ret
        exact PlayPost.mk (fun _ => H8.out) (World.grownBy_alloc _ _ _)
    · go_enter Tryz.func14, Tryz.ntmps14
      go_wp2
      go_ret
      exact PlayPost.mk (fun _ => H8.out) (World.grownBy_alloc _ _ _)

set_option maxRecDepth 100000 in
set_option maxHeartbeats 1600000 in
theorem played37 (only : Int) (ho : only = 3 ∨ only = 7) : Calls Tryz.prog 14 #[o.agg, .int .i64 only] w (PlayPost o w) := by
  rcases ho with rfl | rfl
  all_goals
    cases e1 : (o.kind != 8)
    · go_enter Tryz.func14, Tryz.ntmps14
      go_wp2
      go_ret
      exact PlayPost.mk (fun h => by cases h) (World.grownBy_alloc _ _ _)
    · have h8 : o.kind ≠ 8 := by simpa using e1
      have H8 : Hid (o.kind ≠ 8) := h8
      clear h8
      go_enter Tryz.func14, Tryz.ntmps14
      go_wp2
      go_ret
      exact PlayPost.mk (fun _ => H8.out) (World.grownBy_alloc _ _ _)

theorem played_most (only : Int) (h0 : only = 1 ∨ only = 2 ∨ only = 3 ∨ only = 4 ∨ only = 5 ∨ only = 6 ∨ only = 7) : Calls Tryz.prog 14 #[o.agg, .int .i64 only] w (PlayPost o w) := by
  rcases h0 with e | e | e | e | e | e | e
  · exact played146 o w only (by omega)
  · exact played25 o w only (by omega)
  · exact played37 o w only (by omega)
  · exact played146 o w only (by omega)
  · exact played25 o w only (by omega)
  · exact played146 o w only (by omega)
  · exact played37 o w only (by omega)

end

end Go.Proofs.YtmfdhcnnhlchbaaGreat

namespace Go.Proofs.YtmfdhcnnhlchbaaGreat
open Go.RowKit

theorem infoOp : (Tryz.prog.info? 33).map (fun i => (i.size, i.bytes)) = some (16, 160) := by kernel_rfl

/-- The steps of a script, as they lie in memory. -/
def scriptAt (w : World) (b off : Nat) (os : List OpV) : Prop := ∀ i o, os[i]? = some o → ∀ j v, o.arr[j]? = some v → w.cell? ⟨b, off + i * 16 + j, none⟩ = some v

/-- The numbers of a step lie in their kinds. -/
structure OpOk (o : OpV) : Prop where
  a0 : -9223372036854775808 ≤ o.a
  a1 : o.a ≤ 9223372036854775807
  n : 0 ≤ o.n
  num : 0 ≤ o.num
  n1 : o.n < 18446744073709551616
  d0 : -9223372036854775808 ≤ o.d
  d1 : o.d ≤ 9223372036854775807
  c0 : -9223372036854775808 ≤ o.p.coin
  c1 : o.p.coin ≤ 9223372036854775807

/-- What the loop of UpTo needs of a step. -/
def StepSpec (Dev : Nat → (Nat → Nat) → Nat → World → Nat → Mod → Prop) (ok : OpV → Prop) : Prop := ∀ (own : Nat → Nat) (w : World) (W N : Nat) (qs : List PairS) (o : OpV), Inv Dev own w W qs N → N ≤ 900000 → OpOk o → ok o →
  Calls Tryz.prog 15 #[.pointer (some ⟨W, 0, none⟩), o.agg] w fun e w' => e = .returned (.bool true) ∧ StepTo Dev own w W N w'

theorem script_cells {w : World} {b off k : Nat} {os : List OpV} {o : OpV} (hs : scriptAt w b off os) (ho : os[k]? = some o) :
    w.cell? ⟨b, off + k * 16, none⟩ = some (.int .i64 o.kind) ∧ w.cell? ⟨b, off + k * 16 + 1, none⟩ = some (.int .i64 o.a) ∧ w.cell? ⟨b, off + k * 16 + 2, none⟩ = some (.int .i64 o.c) ∧ w.cell? ⟨b, off + k * 16 + 3, none⟩ = some (.int .i64 o.k) ∧ w.cell? ⟨b, off + k * 16 + 4, none⟩ = some (.int .u64 o.n) ∧
    w.cell? ⟨b, off + k * 16 + 5, none⟩ = some (.int .u64 o.p.seq) ∧ w.cell? ⟨b, off + k * 16 + 6, none⟩ = some (.int .i64 o.p.src) ∧ w.cell? ⟨b, off + k * 16 + 7, none⟩ = some (.int .i64 o.p.dst) ∧ w.cell? ⟨b, off + k * 16 + 8, none⟩ = some (.int .i64 o.p.coin) ∧ w.cell? ⟨b, off + k * 16 + 9, none⟩ = some (.int .u64 o.p.amount) ∧
    w.cell? ⟨b, off + k * 16 + 10, none⟩ = some (.int .u64 o.p.height) ∧ w.cell? ⟨b, off + k * 16 + 11, none⟩ = some (.int .u64 o.p.time) ∧ w.cell? ⟨b, off + k * 16 + 12, none⟩ = some (.slice o.vl o.nl o.cl) ∧ w.cell? ⟨b, off + k * 16 + 13, none⟩ = some (.slice o.vm o.nm o.cm) ∧
    w.cell? ⟨b, off + k * 16 + 14, none⟩ = some (.int .u64 o.num) ∧ w.cell? ⟨b, off + k * 16 + 15, none⟩ = some (.int .i64 o.d) :=
  ⟨hs k o ho 0 _ rfl, hs k o ho 1 _ rfl, hs k o ho 2 _ rfl, hs k o ho 3 _ rfl, hs k o ho 4 _ rfl, hs k o ho 5 _ rfl, hs k o ho 6 _ rfl, hs k o ho 7 _ rfl, hs k o ho 8 _ rfl, hs k o ho 9 _ rfl, hs k o ho 10 _ rfl, hs k o ho 11 _ rfl, hs k o ho 12 _ rfl, hs k o ho 13 _ rfl, hs k o ho 14 _ rfl, hs k o ho 15 _ rfl⟩

/-- What the loop keeps. -/
def LoopInv (Dev : Nat → (Nat → Nat) → Nat → World → Nat → Mod → Prop) (w wr : World) (k : Nat) : Prop := ∃ own qs, Inv Dev own wr w.heap.size qs k ∧ w.grownBy wr none ∧ ∀ q, q < w.heap.size → own q = 0

theorem LoopInv.grow {Dev : Nat → (Nat → Nat) → Nat → World → Nat → Mod → Prop} {kd : Int → Prop} (D : DevSide Dev kd) {w wr w2 : World} {k M : Nat} (h : LoopInv Dev w wr k) (g : wr.grownBy w2 none) (hM : k ≤ M) : LoopInv Dev w w2 M := by
  obtain ⟨own, qs, h1, h2, h3⟩ := h
  have h4 := h2.size
  refine ⟨relab own wr, qs, h1.same D ((relab_step (fun _ => False) own wr).trans (grown_stepS g)) (fun l hl => hl.elim) hM, grown_trans h2 g (fun q e => by cases e), fun q hq => ?_⟩
  rw [relab_old (by omega)]
  exact h3 q hq

theorem LoopInv.step {Dev : Nat → (Nat → Nat) → Nat → World → Nat → Mod → Prop} {w wr w2 : World} {own : Nat → Nat} {k : Nat} (h2 : w.grownBy wr none) (h3 : ∀ q, q < w.heap.size → own q = 0) (g : StepTo Dev own wr w.heap.size k w2) : LoopInv Dev w w2 (k + 1) := by
  obtain ⟨own', qs', hI, s⟩ := g
  have h4 := h2.size
  refine ⟨own', qs', hI, ⟨s.os.trans h2.os, s.tape.trans h2.tape, s.output.trans h2.output, Nat.le_trans h2.size s.size, fun q hq hne => (s.block q (by omega) (fun e => e (h3 q hq))).trans (h2.block q hq hne)⟩, fun q hq => (s.label q (by omega)).trans (h3 q hq)⟩

theorem inv_start {Dev : Nat → (Nat → Nat) → Nat → World → Nat → Mod → Prop} (w : World) : LoopInv Dev w (w.alloc (.cells #[.slice none 0 0, .slice none 0 0, .slice none 0 0, .bool false] tWorld)) 0 := by
  have hr : WRep (fun q => if q = w.heap.size then 1 else 0) (w.alloc (.cells #[.slice none 0 0, .slice none 0 0, .slice none 0 0, .bool false] tWorld)) w.heap.size [] [] ⟨none, 0, none, 0, 0, none, 0, 0⟩ := by
    refine ⟨heap_alloc_new w _, by simp, World.ownsRow_nil _ _ _ _, ?_, World.ownsRow_nil _ _ _ _, ?_⟩
    · intro k e; simp [Value.ownBlock] at e
    · intro k e; simp [Value.ownBlock] at e
  have hi : Inv Dev (fun q => if q = w.heap.size then 1 else 0) (w.alloc (.cells #[.slice none 0 0, .slice none 0 0, .slice none 0 0, .bool false] tWorld)) w.heap.size [] 0 :=
    ⟨⟨[], _, hr, Nat.le_refl _⟩, fun q hq => (by simp at hq), List.Pairwise.nil, Nat.le_refl _⟩
  exact ⟨_, [], hi, World.grownBy_alloc _ _ _, fun q hq => by simp; omega⟩

set_option maxRecDepth 100000 in
set_option maxHeartbeats 1600000 in
theorem upto_most {Dev : Nat → (Nat → Nat) → Nat → World → Nat → Mod → Prop} {kd : Int → Prop} {ok : OpV → Prop} (D : DevSide Dev kd) (S : StepSpec Dev ok) (only : Int) (ho : only = 1 ∨ only = 2 ∨ only = 3 ∨ only = 4 ∨ only = 5 ∨ only = 6 ∨ only = 7) (hok : ∀ o : OpV, o.kind ≠ 8 → ok o) {w : World} {b off cap : Nat} {os : List OpV} (hs : scriptAt w b off os) (hb : b < w.heap.size) (hall : ∀ o ∈ os, OpOk o) (hlen : os.length ≤ 65536) :
    Calls Tryz.prog 13 #[.slice (some ⟨b, off, none⟩) os.length cap, .int .i64 only] w fun e w' => e = .returned (.int .i64 (-1)) ∧ w.grownBy w' none := by
  have H0 : (only == 0) = false := by rcases ho with rfl | rfl | rfl | rfl | rfl | rfl | rfl <;> rfl
  have H8 : (only == 8) = false := by rcases ho with rfl | rfl | rfl | rfl | rfl | rfl | rfl <;> rfl
  have hpl := fun (o : OpV) (w : World) => played_most o w only ho
  clear ho
  go_enter Tryz.func13, Tryz.ntmps13
  go_wp2_with fail
  go_loopw [12] (fun i wr => ∃ k : Nat, i = .int .i64 k ∧ k ≤ os.length ∧ LoopInv Dev w wr k) (fun i _ => os.length - (intOf i).toNat)
  case atStart => exact ⟨0, rfl, Nat.zero_le _, inv_start w⟩
  case round =>
    obtain ⟨k, rfl, hk, hI⟩ := hrel
    by_cases hlt : k < os.length
    · obtain ⟨o, hoo⟩ : ∃ o, os[k]? = some o := ⟨_, List.getElem?_eq_getElem hlt⟩
      have hO := hall o (List.mem_of_getElem? hoo)
      have gw : w.grownBy wr none := by obtain ⟨_, _, _, g, _⟩ := hI; exact g
      have hz := gw.size
      have hs' : scriptAt wr b off os := fun i o' e j v hv => (cell_grown gw hb _).trans (hs i o' e j v hv)
      obtain ⟨x0, x1, x2, x3, x4, x5, x6, x7, x8, x9, x10, x11, x12, x13, x14, x15⟩ := script_cells hs' hoo
      have hbr : b < wr.heap.size := by omega
      have hkl : (k : Int) < (os.length : Int) := by omega
      have hplo := hpl o
      clear hs' hpl
      go_wp2_with fail
      refine (hplo _).mono ?_
      rintro e w2 ⟨r, rfl, hr8, g2⟩
      have hX2 := (g2.block wr.heap.size (by simp) (by simp)).trans (heap_alloc_new wr _)
      have g02 : wr.grownBy w2 none := grown_trans (World.grownBy_alloc wr _ none) g2 (fun q e => by cases e)
      have hz2 := blk_lt hX2
      clear x0 x1 x2 x3 x4 x5 x6 x7 x8 x9 x10 x11 x12 x13 x14 x15 hplo
      cases r
      · clear hr8
        go_wp2_with fail
        go_roundw
        case rel => exact ⟨k + 1, by go_num, by omega, hI.grow D g02 (by omega)⟩
        case measure => simp [intOf]; omega
      · obtain ⟨own2, qs2, hI2, gw2, h02⟩ := hI.grow D g02 (Nat.le_refl _)
        have hst := S own2 w2 w.heap.size k qs2 o hI2 (by omega) hO (hok o (hr8 rfl))
        obtain ⟨y0, y1, y2, y3, y4, y5, y6, y7, y8, y9, y10, y11, y12, y13, y14, y15, yf⟩ := blkOp hX2
        clear hr8
        go_wp2_with fail
        refine hst.mono ?_
        rintro e w3 ⟨rfl, hT⟩
        have hI3 := LoopInv.step gw2 h02 hT
        clear y0 y1 y2 y3 y4 y5 y6 y7 y8 y9 y10 y11 y12 y13 y14 y15 yf hst
        go_wp2_with fail
        go_roundw
        case rel => exact ⟨k + 1, by go_num, by omega, hI3⟩
        case measure => simp [intOf]; omega
    · go_wp2_with fail
      go_ret
      obtain ⟨_, _, _, g, _⟩ := hI
      exact ⟨rfl, g⟩

set_option maxRecDepth 100000 in
set_option maxHeartbeats 800000 in
theorem upto_nil (only : Int) {w : World} {a : Option Addr} {cap : Nat} :
    Calls Tryz.prog 13 #[.slice a 0 cap, .int .i64 only] w fun e w' => e = .returned (.int .i64 (-1)) ∧ w.grownBy w' none := by
  go_enter Tryz.func13, Tryz.ntmps13
  go_wp2_with fail
  refine wp_loop_rounds 1 ?_
  rw [rounds_succ]
  go_wp2_with fail
  go_ret
  exact ⟨rfl, World.grownBy_alloc _ _ _⟩

end Go.Proofs.YtmfdhcnnhlchbaaGreat

namespace Go.Proofs.YtmfdhcnnhlchbaaGreat
open Go.ChangeShapes Go.WideShapes Go.ChangeAt Go.RowKit Go.Deep

theorem laid_out : laidOutB Tryz.prog = true := by kernel_rfl
theorem cOp : Tryz.prog.cellsOf 33 = 16 := by kernel_rfl
theorem cStep : Tryz.prog.cellsOf 30 = 9 := by kernel_rfl
theorem cPk : Tryz.prog.cellsOf 28 = 7 := by kernel_rfl
theorem cInt : Tryz.prog.cellsOf 3 = 1 := by kernel_rfl
theorem cU64 : Tryz.prog.cellsOf 26 = 1 := by kernel_rfl
theorem cKind : Tryz.prog.cellsOf 25 = 1 := by kernel_rfl
theorem bStep : Tryz.prog.bytesOf 30 = 72 := by kernel_rfl
theorem bOp : Tryz.prog.bytesOf 33 = 160 := by kernel_rfl
theorem cSteps : Tryz.prog.cellsOf 31 = 1 := by kernel_rfl

theorem cell_lt {w : World} {b off : Nat} {v : Value} (h : w.cell? ⟨b, off, none⟩ = some v) : b < w.heap.size := by
  apply Classical.byContradiction
  intro hn
  have h1 : w.heap[b]? = none := Array.getElem?_eq_none (by omega)
  simp [World.cell?, h1] at h

section
variable {H : Type} {enc : TypeId × Value → H} {W : World} {base : Nat} {sp : Nat → Bool} {held : Bool}

theorem field_of {t : TypeId} {fs : Array Field} {fuel : Nat} {cs : List Value} {x : DataW H × List MemPlace} (ht : Tryz.prog.underlying t = some (.struct fs)) (h : DataW.trod enc Tryz.prog W base sp held fuel t cs = some x) :
    cs.length = Tryz.prog.cellsOf t ∧ ∃ n, ∀ (i : Nat) (t' : TypeId) (off : Nat), (fs[i]?).map (fun f => (f.type, f.offset)) = some (t', off) →
      ∃ y, DataW.trod enc Tryz.prog W base sp held n t' ((cs.drop off).take (Tryz.prog.cellsOf t')) = some y ∧ ∀ m ∈ y.1.weights Tryz.prog t', m ∈ x.1.weights Tryz.prog t := by
  obtain ⟨xs, n, _, hx, hl, hxl, hf⟩ := DataW.trod_struct ht h
  refine ⟨hl, n, fun i t' off hm => ?_⟩
  obtain ⟨f, hi, he⟩ := Option.map_eq_some_iff.1 hm
  simp only [Prod.mk.injEq] at he
  obtain ⟨rfl, rfl⟩ := he
  have h1 := hf i f hi
  have hi' : i < xs.length := by rw [hxl]; exact (Array.getElem?_eq_some_iff.1 hi).1
  rw [List.getElem?_eq_getElem hi'] at h1
  refine ⟨_, h1, fun m hm => ?_⟩
  rw [hx]
  simp only [DataW.weights, ht]
  refine DataW.weights_mem_each (j := i) (t := f.type) (d := xs[i].1) ?_ ?_ m hm
  · simp [hi]
  · simp [hi']

theorem all_of {P : Program} {e : TypeId} : ∀ {l : List (DataW H)} {d : DataW H}, d ∈ l → ∀ m ∈ d.weights P e, m ∈ DataW.weightsAll P e l
  | [], _, hd, _, _ => by simp at hd
  | a :: r, d, hd, m, hm => by
    simp only [DataW.weightsAll, List.mem_append]
    rcases List.mem_cons.1 hd with rfl | hd
    · exact .inl hm
    · exact .inr (all_of hd m hm)

theorem int_of {fuel : Nat} {v : Value} {x : DataW H × List MemPlace} (h : DataW.trod enc Tryz.prog W base sp held fuel 3 [v] = some x) : ∃ n, v = .int .i64 n ∧ -9223372036854775808 ≤ n ∧ n ≤ 9223372036854775807 := by
  obtain ⟨n, h1, _, h3⟩ := DataW.trod_int Tryz.underlying3 h
  simp at h1
  exact ⟨n, h1, bounds_i64 h3⟩

theorem kind_of {fuel : Nat} {v : Value} {x : DataW H × List MemPlace} (h : DataW.trod enc Tryz.prog W base sp held fuel 25 [v] = some x) : ∃ n, v = .int .i64 n := by
  obtain ⟨n, h1, _, h3⟩ := DataW.trod_int Tryz.underlying25 h
  simp at h1
  exact ⟨n, h1⟩

theorem u64_of {fuel : Nat} {v : Value} {x : DataW H × List MemPlace} (h : DataW.trod enc Tryz.prog W base sp held fuel 26 [v] = some x) : ∃ n, v = .int .u64 n ∧ 0 ≤ n ∧ n ≤ 18446744073709551615 := by
  obtain ⟨n, h1, _, h3⟩ := DataW.trod_int Tryz.underlying26 h
  simp at h1
  exact ⟨n, h1, bounds_u64 h3⟩

theorem steps_of {fuel : Nat} {v : Value} {x : DataW H × List MemPlace} (h : DataW.trod enc Tryz.prog W base sp held fuel 31 [v] = some x) : ∃ a n c, v = .slice a n c ∧ (n = 0 ∨ ∃ k, n ≤ k ∧ k * 72 ∈ x.1.weights Tryz.prog 31) := by
  rcases open_slice Tryz.underlying31 h with ⟨h1, _⟩ | ⟨a, len, cap, m, n, D, Pl, h1, hb, hl, hm, _, hx, _⟩
  · simp at h1
    exact ⟨none, 0, 0, h1, .inl rfl⟩
  · simp at h1
    refine ⟨some a, len, cap, h1, .inr ⟨len + (m - len), by omega, ?_⟩⟩
    rw [hx]
    simp [DataW.weights, Tryz.underlying31, bStep]

set_option maxRecDepth 100000 in
theorem pk_of {fuel : Nat} {v0 v1 v2 v3 v4 v5 v6 : Value} {x : DataW H × List MemPlace} (h : DataW.trod enc Tryz.prog W base sp held fuel 28 [v0, v1, v2, v3, v4, v5, v6] = some x) :
    ∃ p : Pk, [v0, v1, v2, v3, v4, v5, v6] = p.cells ∧ -9223372036854775808 ≤ p.coin ∧ p.coin ≤ 9223372036854775807 := by
  obtain ⟨_, n, hf⟩ := field_of Tryz.underlying28 h
  obtain ⟨_, g0, _⟩ := hf 0 26 0 rfl
  obtain ⟨_, g1, _⟩ := hf 1 3 1 rfl
  obtain ⟨_, g2, _⟩ := hf 2 3 2 rfl
  obtain ⟨_, g3, _⟩ := hf 3 3 3 rfl
  obtain ⟨_, g4, _⟩ := hf 4 26 4 rfl
  obtain ⟨_, g5, _⟩ := hf 5 26 5 rfl
  obtain ⟨_, g6, _⟩ := hf 6 26 6 rfl
  simp only [cInt, cU64, List.drop_succ_cons, List.drop_zero, List.take_succ_cons, List.take_zero] at g0 g1 g2 g3 g4 g5 g6
  obtain ⟨n0, rfl, _, _⟩ := u64_of g0
  obtain ⟨n1, rfl, _, _⟩ := int_of g1
  obtain ⟨n2, rfl, _, _⟩ := int_of g2
  obtain ⟨n3, rfl, b3, b3'⟩ := int_of g3
  obtain ⟨n4, rfl, _, _⟩ := u64_of g4
  obtain ⟨n5, rfl, _, _⟩ := u64_of g5
  obtain ⟨n6, rfl, _, _⟩ := u64_of g6
  exact ⟨⟨n0, n1, n2, n3, n4, n5, n6⟩, rfl, b3, b3'⟩

set_option maxRecDepth 100000 in
theorem op_of {fuel : Nat} {cs : List Value} {x : DataW H × List MemPlace} (h : DataW.trod enc Tryz.prog W base sp held fuel 33 cs = some x) :
    ∃ o : OpV, cs = o.arr.toList ∧ OpOk o ∧ (o.nl = 0 ∨ ∃ k, o.nl ≤ k ∧ k * 72 ∈ x.1.weights Tryz.prog 33) ∧ (o.nm = 0 ∨ ∃ k, o.nm ≤ k ∧ k * 72 ∈ x.1.weights Tryz.prog 33) := by
  obtain ⟨hl, n, hf⟩ := field_of Tryz.underlying33 h
  rw [cOp] at hl
  match cs, hl with
  | [v0, v1, v2, v3, v4, v5, v6, v7, v8, v9, v10, v11, v12, v13, v14, v15], _ =>
    obtain ⟨_, g0, _⟩ := hf 0 3 0 rfl
    obtain ⟨_, g1, _⟩ := hf 1 3 1 rfl
    obtain ⟨_, g2, _⟩ := hf 2 3 2 rfl
    obtain ⟨_, g3, _⟩ := hf 3 30 3 rfl
    obtain ⟨_, g4, q4⟩ := hf 4 31 12 rfl
    obtain ⟨_, g5, q5⟩ := hf 5 31 13 rfl
    obtain ⟨_, g6, _⟩ := hf 6 26 14 rfl
    obtain ⟨_, g7, _⟩ := hf 7 3 15 rfl
    simp only [cInt, cU64, cStep, cSteps, List.drop_succ_cons, List.drop_zero, List.take_succ_cons, List.take_zero] at g0 g1 g2 g3 g4 g5 g6 g7
    obtain ⟨n0, rfl, _, _⟩ := int_of g0
    obtain ⟨n1, rfl, a0, a1⟩ := int_of g1
    obtain ⟨n2, rfl, _, _⟩ := int_of g2
    obtain ⟨al, nl, cl, rfl, l1⟩ := steps_of g4
    obtain ⟨am, nm, cm, rfl, l2⟩ := steps_of g5
    obtain ⟨n14, rfl, m0, m1⟩ := u64_of g6
    obtain ⟨n15, rfl, d0, d1⟩ := int_of g7
    obtain ⟨_, n', hs⟩ := field_of Tryz.underlying30 g3
    obtain ⟨_, s0, _⟩ := hs 0 25 0 rfl
    obtain ⟨_, s1, _⟩ := hs 1 26 1 rfl
    obtain ⟨_, s2, _⟩ := hs 2 28 2 rfl
    simp only [cKind, cU64, cPk, List.drop_succ_cons, List.drop_zero, List.take_succ_cons, List.take_zero] at s0 s1 s2
    obtain ⟨n3, rfl⟩ := kind_of s0
    obtain ⟨n4, rfl, k0, k1⟩ := u64_of s1
    obtain ⟨p, hp, c0, c1⟩ := pk_of s2
    simp only [Pk.cells, List.cons.injEq, and_true] at hp
    obtain ⟨rfl, rfl, rfl, rfl, rfl, rfl, rfl⟩ := hp
    exact ⟨⟨n0, n1, n2, n3, n4, p, al, nl, cl, am, nm, cm, n14, n15⟩, rfl, ⟨a0, a1, k0, m0, (by show n4 < 18446744073709551616; omega), d0, d1, c0, c1⟩, l1.imp id (fun ⟨k, e1, e2⟩ => ⟨k, e1, q4 _ e2⟩), l2.imp id (fun ⟨k, e1, e2⟩ => ⟨k, e1, q5 _ e2⟩)⟩

/-- The script, as it is handed in. -/
theorem script_of {fuel : Nat} {v : Value} {x : DataW H × List MemPlace} (h : DataW.trod enc Tryz.prog W 0 (fun _ => true) true fuel 22 [v] = some x) (hw : ∀ m ∈ x.1.weights Tryz.prog 22, m ≤ reachBytes) :
    (∃ a cap, v = .slice a 0 cap) ∨ ∃ b off cap os, v = .slice (some ⟨b, off, none⟩) os.length cap ∧ 0 < os.length ∧ b < W.heap.size ∧ scriptAt W b off os ∧ (∀ o ∈ os, OpOk o) ∧ (∀ o ∈ os, o.nl ≤ 140737488355328 ∧ o.nm ≤ 140737488355328) ∧ os.length ≤ 140737488355328 := by
  rcases open_slice Tryz.underlying22 h with ⟨h1, _⟩ | ⟨a, len, cap, m, n, D, Pl, h1, hb, hl, hm, hmm, hxx, hx⟩
  · simp at h1
    exact .inl ⟨none, 0, h1⟩
  · simp at h1
    by_cases h0 : len = 0
    · subst h0; exact .inl ⟨some a, cap, h1⟩
    · right
      have hlm : len ≤ m := by rw [hmm]; simp; omega
      rw [hxx] at hw
      have hw1 : (len + (m - len)) * 160 ≤ reachBytes := hw _ (by simp [DataW.weights, Tryz.underlying22, bOp])
      have hw2 : ∀ i, i < len → ∀ q ∈ (D i).weights Tryz.prog 33, q ≤ reachBytes := by
        intro i hi q hq
        refine hw q ?_
        simp only [DataW.weights, Tryz.underlying22, List.mem_cons, List.mem_append]
        exact .inr (.inl (all_of (List.mem_map.2 ⟨i, List.mem_range.2 hi, rfl⟩) q hq))
      unfold reachBytes at hw1 hw2
      have each : ∀ i, i < len → ∃ o : OpV, (∀ j, j < 16 → W.cell? ((a.add (i * 16)).add j) = o.arr[j]?) ∧ OpOk o ∧ o.nl ≤ 140737488355328 ∧ o.nm ≤ 140737488355328 := by
        intro i hi
        obtain ⟨cs, h2, h3⟩ := hx i (by omega)
        rw [cOp] at h2
        obtain ⟨_, hlen, hcell⟩ := World.cells?_some h2
        obtain ⟨o, rfl, ho, h4, h5⟩ := op_of h3
        refine ⟨o, fun j hj => by rw [hcell j hj]; simp, ho, ?_, ?_⟩
        · rcases h4 with e | ⟨k, e1, e2⟩
          · omega
          · have := hw2 i hi _ e2; omega
        · rcases h5 with e | ⟨k, e1, e2⟩
          · omega
          · have := hw2 i hi _ e2; omega
      haveI : Inhabited OpV := ⟨⟨0, 0, 0, 0, 0, ⟨0, 0, 0, 0, 0, 0, 0⟩, none, 0, 0, none, 0, 0, 0, 0⟩⟩
      obtain ⟨f, hf⟩ := choose_lt each
      have hspot : a.spot = none := by
        have h2 := (hf 0 (by omega)).1 0 (by omega)
        have h3 : (f 0).arr[0]? = some (.int .i64 (f 0).kind) := rfl
        rw [h3] at h2
        have := World.cell?_spot h2
        simpa [Addr.add] using this
      obtain ⟨b, off, spot⟩ := a
      simp only at hspot
      subst hspot
      have hcell : ∀ i, i < len → ∀ j v, (f i).arr[j]? = some v → W.cell? ⟨b, off + i * 16 + j, none⟩ = some v := by
        intro i hi j v hv
        have hj : j < 16 := by have := (Array.getElem?_eq_some_iff.1 hv).1; simpa using this
        have h2 := (hf i hi).1 j hj
        rw [hv, add_add, Addr.add_lit] at h2
        rw [Nat.add_assoc]
        exact h2
      refine ⟨b, off, cap, (List.range len).map f, by simpa using h1, by simpa using (by omega : 0 < len), ?_, ?_, ?_, ?_, by simpa using (by omega : len ≤ 140737488355328)⟩
      · have h2 := hcell 0 (by omega) 0 _ rfl
        exact cell_lt h2
      · intro i o ho j v hv
        obtain ⟨hi, he⟩ := List.getElem?_eq_some_iff.1 ho
        simp at hi he
        subst he
        exact hcell i hi j v hv
      · intro o ho
        simp only [List.mem_map, List.mem_range] at ho
        obtain ⟨i, hi, rfl⟩ := ho
        exact (hf i hi).2.1
      · intro o ho
        simp only [List.mem_map, List.mem_range] at ho
        obtain ⟨i, hi, rfl⟩ := ho
        exact (hf i hi).2.2

end

end Go.Proofs.YtmfdhcnnhlchbaaGreat

namespace Go.Proofs.YtmfdhcnnhlchbaaGreat
open Go.RowKit

/-- How many steps, in all, the first k steps of a script bring besides themselves. -/
def weigh (os : List OpV) (k : Nat) : Nat := ((os.take k).map fun o => o.nl + o.nm).sum

theorem weigh_succ {os : List OpV} {k : Nat} {o : OpV} (h : os[k]? = some o) : weigh os (k + 1) = weigh os k + (o.nl + o.nm) := by
  unfold weigh
  rw [List.take_add_one, h]
  simp

def SmallPost (n : Nat) (w : World) (e : Ending) (w' : World) : Prop := ∃ r : Bool, e = .returned (.bool r) ∧ (r = true → n ≤ 65536) ∧ w.grownBy w' none

theorem SmallPost.no {n : Nat} {w w' : World} (g : w.grownBy w' none) : SmallPost n w (.returned (.bool false)) w' := ⟨false, rfl, fun h => (by cases h), g⟩
theorem SmallPost.yes {n : Nat} {w w' : World} (h : n ≤ 65536) (g : w.grownBy w' none) : SmallPost n w (.returned (.bool true)) w' := ⟨true, rfl, fun _ => h, g⟩

set_option maxRecDepth 100000 in
set_option maxHeartbeats 1600000 in
theorem small_any {w : World} {b off cap : Nat} {os : List OpV} (hs : scriptAt w b off os) (hb : b < w.heap.size) (hlen : os.length ≤ 140737488355328) (hl : ∀ o ∈ os, o.nl ≤ 140737488355328 ∧ o.nm ≤ 140737488355328) :
    Calls Tryz.prog 12 #[.slice (some ⟨b, off, none⟩) os.length cap] w (SmallPost os.length w) := by
  go_enter Tryz.func12, Tryz.ntmps12
  go_wp2_with fail
  go_loopw [3, 10] (fun n i wr => ∃ k : Nat, i = .int .i64 k ∧ k ≤ os.length ∧ n = .int .i64 (os.length + weigh os k : Nat) ∧ (0 < k → os.length + weigh os k ≤ 65536) ∧ w.grownBy wr none) (fun _ i _ => os.length - (intOf i).toNat)
  case atStart => exact ⟨0, rfl, Nat.zero_le _, by simp [weigh], fun h => by omega, grown_refl _ _⟩
  case round =>
    obtain ⟨k, rfl, hk, rfl, hw, gw⟩ := hrel
    by_cases hlt : k < os.length
    · obtain ⟨o, hoo⟩ : ∃ o, os[k]? = some o := ⟨_, List.getElem?_eq_getElem hlt⟩
      obtain ⟨l1, l2⟩ := hl o (List.mem_of_getElem? hoo)
      have hz := gw.size
      have hs' : scriptAt wr b off os := fun i o' e j v hv => (cell_grown gw hb _).trans (hs i o' e j v hv)
      obtain ⟨x0, x1, x2, x3, x4, x5, x6, x7, x8, x9, x10, x11, x12, x13, x14, x15⟩ := script_cells hs' hoo
      have hbr : b < wr.heap.size := by omega
      have hkl : (k : Int) < (os.length : Int) := by omega
      have hsucc := weigh_succ hoo
      have hw0 : weigh os k ≤ 65536 := by
        by_cases e : 0 < k
        · have := hw e; omega
        · obtain rfl : k = 0 := by omega
          simp [weigh]
      obtain ⟨V, hV⟩ : ∃ V, V = os.length + weigh os k := ⟨_, rfl⟩
      rw [← hV]
      have hVb : V ≤ 140737488420864 := by omega
      have HS : Hid (os.length + weigh os (k + 1) = V + (o.nl + o.nm)) := by rw [hsucc, hV]; show _ = _; omega
      clear hs' hsucc hV hw hw0
      by_cases hbig : 65536 < V + (o.nl + o.nm)
      · have hbz : (65536 : Int) < (V : Int) + ((o.nl : Int) + (o.nm : Int)) := by omega
        clear hbig
        go_wp2_with fail
        go_ret
        exact SmallPost.no (grown_alloc gw _)
      · have hbz : ¬ (65536 : Int) < (V : Int) + ((o.nl : Int) + (o.nm : Int)) := by omega
        go_wp2_with fail
        go_roundw
        case rel => exact ⟨k + 1, by go_num, by omega, by rw [HS.out]; go_num, fun _ => by rw [HS.out]; omega, grown_alloc gw _⟩
        case measure => simp [intOf]; omega
    · obtain ⟨V, hV⟩ : ∃ V, V = os.length + weigh os k := ⟨_, rfl⟩
      rw [← hV]
      by_cases hle : V ≤ 65536
      · have hbz : (V : Int) ≤ 65536 := by omega
        have HV : Hid (V = os.length + weigh os k) := hV
        clear hV
        go_wp2_with fail
        go_ret
        exact SmallPost.yes (by have := HV.out; omega) gw
      · have hbz : ¬ (V : Int) ≤ 65536 := by omega
        clear hV
        go_wp2_with fail
        go_ret
        exact SmallPost.no gw

set_option maxRecDepth 100000 in
theorem small_nil {w : World} {a : Option Addr} {cap : Nat} : Calls Tryz.prog 12 #[.slice a 0 cap] w fun e w' => e = .returned (.bool true) ∧ w.grownBy w' none := by
  go_enter Tryz.func12, Tryz.ntmps12
  go_wp2_with fail
  refine wp_loop_rounds 1 ?_
  rw [rounds_succ]
  go_wp2_with fail
  go_ret
  exact ⟨rfl, grown_refl _ _⟩

end Go.Proofs.YtmfdhcnnhlchbaaGreat
