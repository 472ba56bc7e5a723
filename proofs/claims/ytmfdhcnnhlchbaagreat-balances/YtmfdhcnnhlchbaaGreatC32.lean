import Derived.Test.YtmfdhcnnhlchbaaGreatC31
import Derived.Carry
import Derived.Test.YtmfdhcnnhlchbaaGreatC29
import Derived.Laws.Tables
import Derived.Laws.Rows
namespace Go.Proofs.YtmfdhcnnhlchbaaGreat
open Go.RowKit Go.Maps

section
variable {w : World}

/-- What newEnd has made: a map of no packets. -/
def EndNew (w : World) (e : Ending) (w' : World) : Prop :=
  ∃ bp : Nat, e = .returned (.agg #[.bool true, .int .u64 1, .int .u64 1, .map (some bp), .slice none 0 0, .slice none 0 0, .slice none 0 0]) ∧ w'.heap[bp]? = some (.map #[] 0) ∧ w.heap.size ≤ bp ∧ w.grownBy w' none

theorem run_mk (t : TypeId) (w' : World) : Sem.run Tryz.prog (Instr.makeMap t none) w' = .ok (.map (some w'.heap.size)) (w'.alloc (.map #[] 0)) := run_makeMap ..

set_option maxRecDepth 100000 in
theorem newEnd_any : Calls Tryz.prog 45 #[] w (EndNew w) := by
  have hm := run_mk
  go_enter Tryz.func45, Tryz.ntmps45
  go_wp2_with fail
  refine bodyPost_ret (v := .agg #[.bool true, .int .u64 1, .int .u64 1, .map (some (w.heap.size + 1)), .slice none 0 0, .slice none 0 0, .slice none 0 0]) ?_ rfl ⟨w.heap.size + 1, rfl, ?_, by omega, grown_alloc (World.grownBy_alloc _ _ _) _⟩
  · simp [results, Tryz.results45, go_sem, *]
  · have := heap_alloc_new (w.alloc (.cells #[.bool true, .int .u64 1, .int .u64 1, .map (some (w.heap.size + 1)), .slice none 0 0, .slice none 0 0, .slice none 0 0] 88)) (.map #[] 0)
    simpa using this

/-- What newView has made. -/
def ViewNew (K : Hd) (w : World) (e : Ending) (w' : World) : Prop :=
  ∃ kp ka : Nat, e = .returned (.agg #[.int .u64 K.height, .int .u64 K.time, .bool K.isOpen, .int .u64 K.nextRecv, .int .i64 K.packets.length, .int .i64 K.answers.length, .map (some kp), .map (some ka)]) ∧ w'.heap[kp]? = some (.map #[] 0) ∧ w'.heap[ka]? = some (.map #[] 0) ∧ w.heap.size ≤ kp ∧ w.heap.size ≤ ka ∧ kp ≠ ka ∧ w.grownBy w' none

theorem blk8 {w : World} {b t : Nat} {x0 x1 x2 x3 x4 x5 x6 x7 : Value} (h : w.heap[b]? = some (.cells #[x0, x1, x2, x3, x4, x5, x6, x7] t (0, 0))) :
    w.cell? ⟨b, 0, none⟩ = some x0 ∧ w.cell? ⟨b, 1, none⟩ = some x1 ∧ w.cell? ⟨b, 2, none⟩ = some x2 ∧ w.cell? ⟨b, 3, none⟩ = some x3 ∧ w.cell? ⟨b, 4, none⟩ = some x4 ∧ w.cell? ⟨b, 5, none⟩ = some x5 ∧ w.cell? ⟨b, 6, none⟩ = some x6 ∧ w.cell? ⟨b, 7, none⟩ = some x7 := by
  refine ⟨?_, ?_, ?_, ?_, ?_, ?_, ?_, ?_⟩
  all_goals simp [World.cell?, h]

theorem two_maps (w2 : World) : ((w2.alloc (.map #[] 0)).alloc (.map #[] 0)).heap[w2.heap.size]? = some (.map #[] 0) ∧ ((w2.alloc (.map #[] 0)).alloc (.map #[] 0)).heap[w2.heap.size + 1]? = some (.map #[] 0) := by
  refine ⟨(heap_alloc_old _ _ (by simp)).trans (heap_alloc_new w2 _), ?_⟩
  have := heap_alloc_new (w2.alloc (.map #[] 0)) (.map #[] 0)
  simpa using this

set_option maxRecDepth 100000 in
theorem newView_any {y : HdN} : Calls Tryz.prog 32 #[y.agg] w (ViewNew y.hd w) := by
  have hm := run_mk
  go_enter Tryz.func32, Tryz.ntmps32
  go_wp2_with fail
  obtain ⟨w2, hw2⟩ : ∃ w2 : World, w2 = (w.alloc (.cells #[Value.int .u64 y.hd.height, Value.int .u64 y.hd.time, Value.bool y.hd.isOpen, Value.int .u64 y.hd.nextRecv, Value.int .i64 y.hd.packets.length, Value.int .i64 y.hd.answers.length, .slice y.ap y.sent.length y.cp, .slice y.ag y.gone.length y.cg, .slice y.aa y.ans.length y.ca] tHeader)).alloc (.cells #[Value.int .u64 y.hd.height, Value.int .u64 y.hd.time, Value.bool y.hd.isOpen, Value.int .u64 y.hd.nextRecv, Value.int .i64 y.hd.packets.length, Value.int .i64 y.hd.answers.length, .map (some (w.heap.size + 1 + 1)), .map (some (w.heap.size + 1 + 1 + 1))] 93) := ⟨_, rfl⟩
  have g2 : w.grownBy w2 none := by rw [hw2]; exact grown_alloc (World.grownBy_alloc _ _ _) _
  have s2 : w2.heap.size = w.heap.size + 1 + 1 := by rw [hw2]; simp
  have hV : w2.heap[w.heap.size + 1]? = some (.cells #[Value.int .u64 y.hd.height, Value.int .u64 y.hd.time, Value.bool y.hd.isOpen, Value.int .u64 y.hd.nextRecv, Value.int .i64 y.hd.packets.length, Value.int .i64 y.hd.answers.length, .map (some (w.heap.size + 1 + 1)), .map (some (w.heap.size + 1 + 1 + 1))] 93 (0, 0)) := by
    rw [hw2]
    have := heap_alloc_new (w.alloc (.cells #[Value.int .u64 y.hd.height, Value.int .u64 y.hd.time, Value.bool y.hd.isOpen, Value.int .u64 y.hd.nextRecv, Value.int .i64 y.hd.packets.length, Value.int .i64 y.hd.answers.length, .slice y.ap y.sent.length y.cp, .slice y.ag y.gone.length y.cg, .slice y.aa y.ans.length y.ca] tHeader)) (.cells #[Value.int .u64 y.hd.height, Value.int .u64 y.hd.time, Value.bool y.hd.isOpen, Value.int .u64 y.hd.nextRecv, Value.int .i64 y.hd.packets.length, Value.int .i64 y.hd.answers.length, .map (some (w.heap.size + 1 + 1)), .map (some (w.heap.size + 1 + 1 + 1))] 93)
    simpa using this
  rw [← hw2]
  clear hw2
  obtain ⟨m1, m2⟩ := two_maps w2
  rw [s2] at m1 m2
  obtain ⟨v0, v1, v2, v3, v4, v5, v6, v7⟩ := blk8 hV
  clear hV
  refine bodyPost_ret (v := .agg #[.int .u64 y.hd.height, .int .u64 y.hd.time, .bool y.hd.isOpen, .int .u64 y.hd.nextRecv, .int .i64 y.hd.packets.length, .int .i64 y.hd.answers.length, .map (some (w.heap.size + 1 + 1)), .map (some (w.heap.size + 1 + 1 + 1))]) ?_ rfl ⟨_, _, rfl, m1, m2, by omega, by omega, by omega, grown_alloc (grown_alloc g2 _) _⟩
  simp [results, Tryz.results32, go_sem, *]

theorem clonePk_nil {W : World} : Calls Tryz.prog 76 #[.slice none 0 0] W fun e w' => e = .returned (.slice none 0 0) ∧ w' = W := by
  have hnil := fun W => Lib.run_eql_slice_nil (P := Tryz.prog) W 57 28 none 0 0 0 0 Tryz.underlying57
  go_enter Tryz.func76, Tryz.ntmps76
  go_wp2_with fail
  go_ret
  exact ⟨rfl, rfl⟩

theorem cloneU_nil {W : World} : Calls Tryz.prog 77 #[.slice none 0 0] W fun e w' => e = .returned (.slice none 0 0) ∧ w' = W := by
  have hnil := fun W => Lib.run_eql_slice_nil (P := Tryz.prog) W 81 26 none 0 0 0 0 Tryz.underlying81
  go_enter Tryz.func77, Tryz.ntmps77
  go_wp2_with fail
  go_ret
  exact ⟨rfl, rfl⟩

theorem cloneA_nil {W : World} : Calls Tryz.prog 78 #[.slice none 0 0] W fun e w' => e = .returned (.slice none 0 0) ∧ w' = W := by
  have hnil := fun W => Lib.run_eql_slice_nil (P := Tryz.prog) W 84 161 none 0 0 0 0 Tryz.underlying84
  go_enter Tryz.func78, Tryz.ntmps78
  go_wp2_with fail
  go_ret
  exact ⟨rfl, rfl⟩

abbrev chRaw (own : Int) (bp bf : Nat) (vh : Value) : Array Value := #[.bool true, .int .u64 1, .int .u64 1, .map (some bp), .slice none 0 0, .slice none 0 0, .slice none 0 0, .int .i64 own, .int .u64 0, .int .u64 0, .map (some bf), .int .u64 0, .int .u64 0, vh,
   .int .u64 0, .int .u64 0, .bool false, .int .u64 0, .int .i64 0, .int .i64 0, .map none, .map none]

set_option maxRecDepth 100000 in
set_option maxHeartbeats 1600000 in
theorem handOn_nil {y : Nat} {own : Int} {bp bf : Nat} (h : w.heap[y]? = some (.cells (chRaw own bp bf (.slice none 0 0)) 95 (0, 0))) :
    Calls Tryz.prog 58 #[.pointer (some ⟨y, 4, none⟩)] w fun e w' => e = .returned (.agg #[.slice none 0 0, .slice none 0 0, .slice none 0 0]) ∧ w'.heap[y]? = w.heap[y]? ∧ w.grownBy w' (some y) := by
  have hy : y < w.heap.size := blk_lt h
  have k1 := fun W => clonePk_nil (W := W)
  have k2 := fun W => cloneU_nil (W := W)
  have k3 := fun W => cloneA_nil (W := W)
  have c4 : w.cell? ⟨y, 4, none⟩ = some (.slice none 0 0) := by simp [World.cell?, h]
  have c5 : w.cell? ⟨y, 4 + 1, none⟩ = some (.slice none 0 0) := by simp [World.cell?, h]
  have c6 : w.cell? ⟨y, 4 + 2, none⟩ = some (.slice none 0 0) := by simp [World.cell?, h]
  have cf : ∀ k, w.frozen? ⟨y, k, none⟩ = false := fun k => by simp [World.frozen?, h]
  go_enter Tryz.func58, Tryz.ntmps58
  go_wp2_with fail
  obtain ⟨w1, hw1⟩ : ∃ w1 : World, w1 = w.alloc (.cells #[.slice none 0 0, .slice none 0 0, .slice none 0 0] 86) := ⟨_, rfl⟩
  have g1 : w.grownBy w1 none := by rw [hw1]; exact World.grownBy_alloc _ _ _
  have hX1 : w1.heap[w.heap.size]? = some (.cells #[.slice none 0 0, .slice none 0 0, .slice none 0 0] 86 (0, 0)) := by rw [hw1]; exact heap_alloc_new w _
  rw [← hw1]
  clear hw1 c4 c5 c6 cf
  have hB1 := (g1.block y hy (by simp)).trans h
  have c4 : w1.cell? ⟨y, 4, none⟩ = some (.slice none 0 0) := by simp [World.cell?, hB1]
  have c5 : w1.cell? ⟨y, 4 + 1, none⟩ = some (.slice none 0 0) := by simp [World.cell?, hB1]
  have c6 : w1.cell? ⟨y, 4 + 2, none⟩ = some (.slice none 0 0) := by simp [World.cell?, hB1]
  have cf : ∀ k, w1.frozen? ⟨y, k, none⟩ = false := fun k => by simp [World.frozen?, hB1]
  have hy1 : y < w1.heap.size := blk_lt hB1
  go_region_held3 (fun w' => w'.cell? ⟨y, 4, none⟩ = some (.slice none 0 0) ∧ w'.cell? ⟨y, 4 + 1, none⟩ = some (.slice none 0 0) ∧ w'.cell? ⟨y, 4 + 2, none⟩ = some (.slice none 0 0)) (first | go_keep)
    (first | (go_at_call 76; refine (k1 _).mono ?_; rintro e w2 ⟨rfl, rfl⟩) | (go_at_call 77; refine (k2 _).mono ?_; rintro e w2 ⟨rfl, rfl⟩) | (go_at_call 78; refine (k3 _).mono ?_; rintro e w2 ⟨rfl, rfl⟩))
  all_goals
    obtain ⟨w5, hw5⟩ : ∃ w5 : World, w5 = (w1.alloc (.cells #[.slice none 0 0, .slice none 0 0, .slice none 0 0] 86)).drew := ⟨_, rfl⟩
    have g5 : w1.grownBy w5 none := by rw [hw5]; exact grown_drew (World.grownBy_alloc _ _ _)
    have hJ5 : w5.heap[w1.heap.size]? = some (.cells #[.slice none 0 0, .slice none 0 0, .slice none 0 0] 86 (0, 0)) := by rw [hw5, drew_heap]; exact heap_alloc_new w1 _
    rw [← hw5]
    clear hw5
    have hX5 := (g5.block _ (blk_lt hX1) (by simp)).trans hX1
    have hB5 := (g5.block _ hy1 (by simp)).trans hB1
    have hxl5 := blk_lt hB5
    have hjl5 := blk_lt hJ5
    have hxj : y ≠ w1.heap.size := by omega
    have e4 : w5.cell? ⟨y, 4, none⟩ = some (.slice none 0 0) := by simp [World.cell?, hB5]
    have e5 : w5.cell? ⟨y, 4 + 1, none⟩ = some (.slice none 0 0) := by simp [World.cell?, hB5]
    have e6 : w5.cell? ⟨y, 4 + 2, none⟩ = some (.slice none 0 0) := by simp [World.cell?, hB5]
    have ef : ∀ k, w5.frozen? ⟨y, k, none⟩ = false := fun k => by simp [World.frozen?, hB5]
    clear c4 c5 c6 cf k1 k2 k3
    go_wp2_with fail
    go_region
    obtain ⟨w6, hw6⟩ : ∃ w6, w6 = (((w5.setCell ⟨y, 4, none⟩ (.slice none 0 0)).setCell ⟨y, 5, none⟩ (.slice none 0 0)).setCell ⟨y, 6, none⟩ (.slice none 0 0)).drew := ⟨_, rfl⟩
    have far : ∀ k, k ≠ y → w6.heap[k]? = w5.heap[k]? := fun k hk => by
      rw [hw6, drew_heap, setCell_other _ _ _ hk, setCell_other _ _ _ hk, setCell_other _ _ _ hk]
    have hB6 : w6.heap[y]? = some (.cells (chRaw own bp bf (.slice none 0 0)) 95 (0, 0)) := by
      rw [hw6, drew_heap, setCell_same (setCell_same (setCell_same hB5 _ _) _ _)]
      rfl
    have g6 : w.grownBy w6 (some y) := by
      rw [hw6]
      refine grown_drew ?_
      refine grown_set ?_ ⟨y, 6, none⟩ _ (.inl rfl)
      refine grown_set ?_ ⟨y, 5, none⟩ _ (.inl rfl)
      exact grown_set (grown_none (grown_trans g1 g5 (by simp)) _) ⟨y, 4, none⟩ _ (.inl rfl)
    rw [← hw6]
    clear hw6
    have hX6 := (far _ (by omega)).trans hX5
    have hJ6 := (far _ (by omega)).trans hJ5
    have hxl6 := blk_lt hX6
    have hjl6 := blk_lt hJ6
    have hl := blk_lt hX1
    have hjn : w.heap.size ≠ w1.heap.size := by omega
    obtain ⟨y0, y1, y2, yf⟩ := blk3c hJ6
    obtain ⟨z0, z1, z2, zf⟩ := blk3c hX6
    go_wp2_with fail
    refine bodyPost_ret (v := .agg #[.slice none 0 0, .slice none 0 0, .slice none 0 0]) ?_ rfl ⟨rfl, ?_, grown_set (grown_set (grown_set g6 _ _ (.inr (Nat.le_refl _))) _ _ (.inr (Nat.le_refl _))) _ _ (.inr (Nat.le_refl _))⟩
    · simp [results, Tryz.results58, go_sem, *]
    · rw [setCell_other _ _ _ (by simp; omega), setCell_other _ _ _ (by simp; omega), setCell_other _ _ _ (by simp; omega), hB6, h]

end

end Go.Proofs.YtmfdhcnnhlchbaaGreat

namespace Go.Proofs.YtmfdhcnnhlchbaaGreat
open Go.RowKit Go.Maps

section
variable {w : World}

abbrev hdrNew : Value := .agg #[.int .u64 0, .int .u64 0, .bool true, .int .u64 1, .int .i64 0, .int .i64 0, .slice none 0 0, .slice none 0 0, .slice none 0 0]

theorem mapIs_made {α : Type} (enc : α → Value) (kt : TypeId) {b : Nat} (h : w.heap[b]? = some (.map #[] 0)) : MapIs Tryz.prog kt enc w b (fun _ => none) 0 :=
  ⟨.map [], ⟨#[], 0, h, ⟨by simp, Go.MapKept.stamped_empty 0, by simp⟩, Nat.le_refl _, rfl⟩, rfl, fun key kl _ => ⟨by simp [Maps.has], fun v h => by cases h⟩⟩

abbrev hdrAt (n : Nat) : Value := .agg #[.int .u64 0, .int .u64 0, .bool true, .int .u64 1, .int .i64 n, .int .i64 0, .slice none 0 0, .slice none 0 0, .slice none 0 0]

def TellNew (w : World) (y : Nat) (e : Ending) (w' : World) : Prop := e = .returned hdrNew ∧ w'.heap[y]? = w.heap[y]? ∧ w.grownBy w' (some y)

theorem tellNew_done {w w1 w2 : World} {y n0 : Nat} (hn : n0 = 0) (hyl : y < w.heap.size) (g1 : w.grownBy w1 none) (G2 : w1.grownBy w2 (some y)) (HB : w2.heap[y]? = w1.heap[y]?) (v0 v1 v2 v3 v4 v5 v6 v7 v8 : Value) :
    TellNew w y (.returned (hdrAt n0)) (set9 w2 w.heap.size v0 v1 v2 v3 v4 v5 v6 v7 v8) := by
  subst hn
  exact ⟨rfl, (set9_other v0 v1 v2 v3 v4 v5 v6 v7 v8 (by omega)).trans (HB.trans (g1.block y hyl (by simp))), set9_grown _ _ _ _ _ _ _ _ _ (Nat.le_refl _) (grown_trans (grown_none g1 _) G2 (fun k e => .inl e))⟩

set_option maxRecDepth 100000 in
set_option maxHeartbeats 1600000 in
theorem tell_nil {y : Nat} {own : Int} {bp bf n0 : Nat} (hn0 : Hid (n0 = 0)) (h : w.heap[y]? = some (.cells (chRaw own bp bf (.slice none 0 0)) 95 (0, 0))) (hp : w.heap[bp]? = some (.map #[] 0)) :
    Calls Tryz.prog 46 #[.pointer (some ⟨y, 0, none⟩)] w (TellNew w y) := by
  have hyl : y < w.heap.size := blk_lt h
  have hpl : bp < w.heap.size := blk_lt hp
  have hpy : bp ≠ y := fun e => by rw [e, h] at hp; cases hp
  obtain ⟨w1, hw1⟩ : ∃ w1 : World, w1 = w.alloc (.cells hdrNil tHeader) := ⟨_, rfl⟩
  have g1 : w.grownBy w1 none := by rw [hw1]; exact World.grownBy_alloc _ _ _
  have hX1 : w1.heap[w.heap.size]? = some (.cells hdrNil tHeader (0, 0)) := by rw [hw1]; exact heap_alloc_new w _
  have h1 : w1.drew.heap[y]? = some (.cells (chRaw own bp bf (.slice none 0 0)) 95 (0, 0)) := (g1.block y hyl (by simp)).trans h
  have hM1 : MapIs Tryz.prog tU64 encU w1.drew bp (fun _ => none) n0 := by rw [hn0.out]; exact mapIs_made _ _ ((g1.block bp hpl (by simp)).trans hp)
  have hlen := hM1.len (t := 83) Tryz.underlying83 3
  have hwr : IntKind.u64.wrap 0 = 0 := by decide
  have hwi : IntKind.i64.wrap 0 = 0 := by decide
  have c0 : w1.drew.cell? ⟨y, 0, none⟩ = some (.bool true) := by simp [World.cell?, h1]
  have c2 : w1.drew.cell? ⟨y, 2, none⟩ = some (.int .u64 1) := by simp [World.cell?, h1]
  have c3 : w1.drew.cell? ⟨y, 3, none⟩ = some (.map (some bp)) := by simp [World.cell?, h1]
  have c8 : w1.drew.cell? ⟨y, 8, none⟩ = some (.int .u64 0) := by simp [World.cell?, h1]
  have c9 : w1.drew.cell? ⟨y, 9, none⟩ = some (.int .u64 0) := by simp [World.cell?, h1]
  have cf : ∀ k, w1.drew.frozen? ⟨y, k, none⟩ = false := fun k => by simp [World.frozen?, h1]
  have hbN : bp ≠ w.heap.size := by omega
  have hxN : y ≠ w.heap.size := by omega
  have hcall : Calls Tryz.prog 58 #[.pointer (some ⟨y, 4, none⟩)] w1.drew fun e w2 => e = .returned (.agg #[.slice none 0 0, .slice none 0 0, .slice none 0 0]) ∧
      (w2.cell? ⟨y, 8, none⟩ = some (.int .u64 0) ∧ w2.cell? ⟨y, 9, none⟩ = some (.int .u64 0) ∧ w2.cell? ⟨y, 0, none⟩ = some (.bool true) ∧ w2.cell? ⟨y, 2, none⟩ = some (.int .u64 1) ∧ w2.cell? ⟨y, 3, none⟩ = some (.map (some bp)) ∧
        Sem.run Tryz.prog (Builtin.len_ #[83] 3 #[.map (some bp)]) w2 = .ok (.int .i64 n0) w2) ∧
      Hid (w2.heap[w.heap.size]? = some (.cells hdrNil tHeader (0, 0))) ∧ Hid (MapIs Tryz.prog tU64 encU w2 bp (fun _ => none) n0) ∧
      Hid (w2.heap[y]? = w1.heap[y]? ∧ w1.grownBy w2 (some y)) := by
    refine (handOn_nil h1).mono ?_
    rintro e w2 ⟨rfl, r4, r5⟩
    have h2 := r4.trans h1
    have hM2 := hM1.keep (r5.block bp hM1.lt (by simpa using hpy))
    exact ⟨rfl, ⟨by simp [World.cell?, h2], by simp [World.cell?, h2], by simp [World.cell?, h2], by simp [World.cell?, h2], by simp [World.cell?, h2], hM2.len Tryz.underlying83 _⟩, (r5.block w.heap.size (blk_lt hX1) (by simp; omega)).trans hX1, hM2, r4, ⟨r5.os, r5.tape, r5.output, r5.size, r5.block⟩⟩
  go_enter Tryz.func46, Tryz.ntmps46
  go_wp2_with fail
  rw [← hw1]
  clear hw1
  go_region_held3 (fun w' => w'.cell? ⟨y, 8, none⟩ = some (.int .u64 0) ∧ w'.cell? ⟨y, 9, none⟩ = some (.int .u64 0) ∧ w'.cell? ⟨y, 0, none⟩ = some (.bool true) ∧ w'.cell? ⟨y, 2, none⟩ = some (.int .u64 1) ∧ w'.cell? ⟨y, 3, none⟩ = some (.map (some bp)) ∧
        Sem.run Tryz.prog (Builtin.len_ #[83] 3 #[.map (some bp)]) w' = .ok (.int .i64 n0) w') (first | go_keep | (refine ⟨?_, ?_, ?_, ?_, ?_, ?_⟩ <;> first | ((rw [cell_far hxN, cell_far hxN, cell_far hxN, cell_far hxN, cell_far hxN, cell_far hxN, cell_far hxN, cell_far hxN, cell_far hxN]; assumption)) | exact (MapIs.keep HM.out (set9_other _ _ _ _ _ _ _ _ _ hbN)).len Tryz.underlying83 _))
    (first | (go_at_call 58; refine hcall.mono ?_; rintro e w2 ⟨rfl, ⟨d8, d9, d0, d2, d3, dl⟩, HX, HM, HR⟩; obtain ⟨y0, y1, y2, y3, y4, y5, y6, y7, y8, yf⟩ := blk9c HX))
  go_wp2_with fail
  obtain ⟨HB, G2⟩ := HR
  refine bodyPost_ret (v := hdrAt n0) ?_ rfl (tellNew_done hn0.out hyl g1 G2 HB _ _ _ _ _ _ _ _ _)
  simp [results, Tryz.results46, go_sem, *]

end

end Go.Proofs.YtmfdhcnnhlchbaaGreat

namespace Go.Proofs.YtmfdhcnnhlchbaaGreat
open Go.RowKit Go.Maps

section
variable {w : World}

def ChainNew (w : World) (own coins : Int) (e : Ending) (w' : World) : Prop :=
  ∃ bp bf ah nf : Nat, ∃ ff : Int × Int → Option Value, e = .returned (.agg (chRaw own bp bf (.slice (some ⟨ah, 0, none⟩) 1 1))) ∧ w'.heap[bp]? = some (.map #[] 0) ∧ MapIs Tryz.prog tHold encH w' bf ff nf ∧ nf ≤ 3 ∧
    (∀ u c : Int, (ff (u, c)).getD (.int .u64 0) = .int .u64 (if (0 ≤ u ∧ u ≤ 2) ∧ c = own then coins else 0)) ∧
    w'.ownsRow 0 tHeader 9 (.slice (some ⟨ah, 0, none⟩) 1 1) 1 (HdN.cells ⟨newHd, [], [], [], none, 0, none, 0, none, 0⟩) ∧ (w.heap.size ≤ bp ∧ w.heap.size ≤ bf ∧ w.heap.size ≤ ah ∧ bp ≠ bf) ∧ w'.heap[ah]? = some (.cells #[Value.int .u64 0, Value.int .u64 0, Value.bool true, Value.int .u64 1, Value.int .i64 0, Value.int .i64 0, Value.slice none 0 0, Value.slice none 0 0, Value.slice none 0 0] tHeader (0, 0)) ∧ w.grownBy w' none

theorem chRaw_one (own : Int) (bp bf : Nat) (al : Option Addr) (n c : Nat) : (chRaw own bp bf (.slice al n c)).all (·.oneCell') = true := by simp [Value.oneCell']

theorem infoCh : (Tryz.prog.info? 95).map (·.size) = some 22 := by kernel_rfl

abbrev chNil : Array Value := #[.bool false, .int .u64 0, .int .u64 0, .map none, .slice none 0 0, .slice none 0 0, .slice none 0 0, .int .i64 0, .int .u64 0, .int .u64 0, .map none, .int .u64 0, .int .u64 0, .slice none 0 0, .int .u64 0, .int .u64 0, .bool false, .int .u64 0, .int .i64 0, .int .i64 0, .map none, .map none]

set_option maxRecDepth 100000 in
set_option maxHeartbeats 1600000 in
theorem newChain_zero {own : Int} : Calls Tryz.prog 31 #[.int .i64 own, .int .u64 0] w (ChainNew w own 0) := by
  have hm := run_mk
  have hE := fun W => newEnd_any (w := W)
  go_enter Tryz.func31, Tryz.ntmps31
  go_wp2_with fail
  obtain ⟨w1, hw1⟩ : ∃ w1 : World, w1 = w.alloc (.cells chNil 95) := ⟨_, rfl⟩
  have g1 : w.grownBy w1 none := by rw [hw1]; exact World.grownBy_alloc _ _ _
  have hR1 : w1.heap[w.heap.size]? = some (.cells chNil 95 (0, 0)) := by rw [hw1]; exact heap_alloc_new w _
  rw [← hw1]
  clear hw1
  refine (hE w1).mono ?_
  rintro e w2 ⟨bp, rfl, hp, hbp, g2⟩
  have hN2 : ((w2.alloc (.map #[] 0)).alloc (.cells chNil 95)).heap[w2.heap.size + 1]? = some (.cells chNil 95 (0, 0)) := by
    have := heap_alloc_new (w2.alloc (.map #[] 0)) (.cells chNil 95)
    simpa using this
  go_wp2_with (refine wpList_store_row rfl 95 (.tmp 5) (.tmp 10) rfl (w2.heap.size + 1) (chRaw own bp w2.heap.size (.slice none 0 0)) rfl rfl 95 chNil hN2 infoCh rfl (chRaw_one ..) ?_)
  obtain ⟨w3, hw3⟩ : ∃ w3 : World, w3 = ((w2.alloc (.map #[] 0)).alloc (.cells chNil 95)).setRow (w2.heap.size + 1) (chRaw own bp w2.heap.size (.slice none 0 0)) := ⟨_, rfl⟩
  have g3 : w2.grownBy w3 none := by
    rw [hw3]
    have g0 : w2.grownBy ((w2.alloc (.map #[] 0)).alloc (.cells chNil 95)) none := grown_alloc (World.grownBy_alloc _ _ _) _
    exact ⟨g0.os, g0.tape, g0.output, by rw [setRow_size]; exact g0.size, fun k hk hne => (setRow_other _ _ _ _ (by omega)).trans (g0.block k hk hne)⟩
  have s3 : w3.heap.size = w2.heap.size + 1 + 1 := by rw [hw3, setRow_size]; simp
  have hY3 : w3.heap[w2.heap.size + 1]? = some (.cells (chRaw own bp w2.heap.size (.slice none 0 0)) 95 (0, 0)) := by
    rw [hw3]
    exact setRow_heap _ _ _ _ _ _ hN2
  have hM3 : w3.heap[w2.heap.size]? = some (.map #[] 0) := by
    rw [hw3, setRow_other _ _ _ _ (by omega)]
    exact (heap_alloc_old _ _ (by simp)).trans (heap_alloc_new w2 _)
  clear hN2
  rw [← hw3]
  clear hw3
  have hp3 := (g3.block bp (blk_lt hp) (by simp)).trans hp
  have s1 := blk_lt hR1
  have s2 := blk_lt hp
  have s12 := g2.size
  have hR3 := ((g3.block _ (by omega) (by simp)).trans (g2.block _ s1 (by simp))).trans hR1
  refine (tell_nil (n0 := 0) rfl hY3 hp3).mono ?_
  rintro e w4 ⟨rfl, e4, g4⟩
  have hY4 := e4.trans hY3
  have hR4 := (g4.block _ (blk_lt hR3) (by simp; omega)).trans hR3
  have hyl4 := blk_lt hY4
  have hrl4 := blk_lt hR4
  have hry : w.heap.size ≠ w2.heap.size + 1 := by omega
  have c13 : w4.cell? ⟨w2.heap.size + 1, 13, none⟩ = some (.slice none 0 0) := by simp [World.cell?, hY4]
  have cf : ∀ k, w4.frozen? ⟨w2.heap.size + 1, k, none⟩ = false := fun k => by simp [World.frozen?, hY4]
  clear hE hm
  go_wp2_with (first
    | refine wpList_load_row rfl 95 (.tmp 5) rfl (w2.heap.size + 1) rfl 95 (chRaw own bp w2.heap.size (.slice (some ⟨w4.heap.size, 0, none⟩) 1 1)) (0, 0) _ ?hl Tryz.underlying95 rfl infoCh ?_
    | refine wpList_store_row rfl 95 (.tmp 4) (.tmp 26) rfl w.heap.size (chRaw own bp w2.heap.size (.slice (some ⟨w4.heap.size, 0, none⟩) 1 1)) rfl rfl 95 chNil ?hs infoCh rfl (chRaw_one ..) ?_)
  case hl =>
    refine (heap_alloc_old _ _ (by rw [setCell_size]; exact hyl4)).trans ((setCell_same hY4 _ _).trans ?_)
    rfl
  case hs => exact (heap_alloc_old _ _ (by rw [setCell_size]; exact hrl4)).trans ((setCell_other _ _ _ (by simp; omega)).trans hR4)
  obtain ⟨w5, hw5⟩ : ∃ w5 : World, w5 = (w4.setCell ⟨w2.heap.size + 1, 13, none⟩ (.slice (some ⟨w4.heap.size, 0, none⟩) 1 1)).alloc (.cells #[Value.int .u64 0, Value.int .u64 0, Value.bool true, Value.int .u64 1, Value.int .i64 0, Value.int .i64 0, Value.slice none 0 0, Value.slice none 0 0, Value.slice none 0 0] tHeader) := ⟨_, rfl⟩
  have g5 : w4.grownBy w5 (some (w2.heap.size + 1)) := by rw [hw5]; exact grown_alloc (grown_set (grown_refl _ _) ⟨w2.heap.size + 1, 13, none⟩ _ (.inl rfl)) _
  have hH5 : w5.heap[w4.heap.size]? = some (.cells #[Value.int .u64 0, Value.int .u64 0, Value.bool true, Value.int .u64 1, Value.int .i64 0, Value.int .i64 0, Value.slice none 0 0, Value.slice none 0 0, Value.slice none 0 0] tHeader (0, 0)) := by
    rw [hw5]
    have := heap_alloc_new (w4.setCell ⟨w2.heap.size + 1, 13, none⟩ (.slice (some ⟨w4.heap.size, 0, none⟩) 1 1)) (.cells #[Value.int .u64 0, Value.int .u64 0, Value.bool true, Value.int .u64 1, Value.int .i64 0, Value.int .i64 0, Value.slice none 0 0, Value.slice none 0 0, Value.slice none 0 0] tHeader)
    rw [setCell_size] at this
    exact this
  rw [← hw5]
  clear hw5
  refine bodyPost_ret (v := .agg (chRaw own bp w2.heap.size (.slice (some ⟨w4.heap.size, 0, none⟩) 1 1))) (results_cell_row Tryz.results31 _ _ w.heap.size 95 _ (0, 0) _ rfl (setRow_heap _ _ _ _ _ _ ((g5.block _ hrl4 (by simp; omega)).trans hR4)) Tryz.underlying95 rfl infoCh) rfl ?_
  have far : ∀ k, k < w4.heap.size → k ≠ w2.heap.size + 1 → k ≠ w.heap.size → (w5.setRow w.heap.size (chRaw own bp w2.heap.size (.slice (some ⟨w4.heap.size, 0, none⟩) 1 1))).heap[k]? = w4.heap[k]? := fun k h1 h2 h3 => (setRow_other _ _ _ _ h3).trans (g5.block k h1 (by simpa using h2))
  have far3 : ∀ k, k < w3.heap.size → k ≠ w2.heap.size + 1 → k ≠ w.heap.size → (w5.setRow w.heap.size (chRaw own bp w2.heap.size (.slice (some ⟨w4.heap.size, 0, none⟩) 1 1))).heap[k]? = w3.heap[k]? := fun k h1 h2 h3 => (far k (by have := g4.size; omega) h2 h3).trans (g4.block k h1 (by simpa using h2))
  have z4 := g4.size
  have z5 := g5.size
  refine ⟨bp, w2.heap.size, w4.heap.size, 0, fun _ => none, rfl, (far3 bp (by omega) (by omega) (by omega)).trans hp3, mapIs_made _ _ ((far3 _ (by omega) (by omega) (by omega)).trans hM3), by omega, fun u c => by simp, ?_, ⟨by omega, by omega, by omega, by omega⟩, (setRow_other _ _ _ _ (by omega)).trans hH5, ?_⟩
  · exact ⟨rfl, .inr ⟨w4.heap.size, 1, _, rfl, Nat.zero_le _, (setRow_other _ _ _ _ (by omega)).trans hH5, by simp [HdN.cells, newHd, maxLen]⟩⟩
  · refine ⟨?_, ?_, ?_, ?_, fun k hk _ => ?_⟩
    · rw [setRow_os]; exact g5.os.trans (g4.os.trans (g3.os.trans (g2.os.trans g1.os)))
    · rw [setRow_tape]; exact g5.tape.trans (g4.tape.trans (g3.tape.trans (g2.tape.trans g1.tape)))
    · rw [setRow_output]; exact g5.output.trans (g4.output.trans (g3.output.trans (g2.output.trans g1.output)))
    · rw [setRow_size]; omega
    · rw [far3 k (by omega) (by omega) (by omega), g3.block k (by omega) (by simp), g2.block k (by omega) (by simp), g1.block k hk (by simp)]

theorem funds3 (own coins u c : Int) : ((putF (putF (putF (fun _ : Int × Int => (none : Option Value)) (0, own) (.int .u64 coins)) (1, own) (.int .u64 coins)) (2, own) (.int .u64 coins)) (u, c)).getD (.int .u64 0) = .int .u64 (if (0 ≤ u ∧ u ≤ 2) ∧ c = own then coins else 0) := by
  unfold putF
  by_cases e : c = own
  · subst e
    by_cases e0 : u = 0
    · simp [e0]
    · by_cases e1 : u = 1
      · simp [e1]
      · by_cases e2 : u = 2
        · simp [e2]
        · simp [e0, e1, e2]
          intro h1 h2
          omega
  · simp [e]

set_option maxRecDepth 100000 in
set_option maxHeartbeats 1600000 in
theorem newChain_some {own coins : Int} (hc : 0 < coins) (ho : 0 ≤ own ∧ own ≤ 1) : Calls Tryz.prog 31 #[.int .i64 own, .int .u64 coins] w (ChainNew w own coins) := by
  have hc' : decide (0 < coins) = true := by simpa using hc
  have hm := run_mk
  have hE := fun W => newEnd_any (w := W)
  go_enter Tryz.func31, Tryz.ntmps31
  go_wp2_with fail
  obtain ⟨w1, hw1⟩ : ∃ w1 : World, w1 = w.alloc (.cells chNil 95) := ⟨_, rfl⟩
  have g1 : w.grownBy w1 none := by rw [hw1]; exact World.grownBy_alloc _ _ _
  have hR1 : w1.heap[w.heap.size]? = some (.cells chNil 95 (0, 0)) := by rw [hw1]; exact heap_alloc_new w _
  rw [← hw1]
  clear hw1
  refine (hE w1).mono ?_
  rintro e w2 ⟨bp, rfl, hp, hbp, g2⟩
  have hN2 : ((w2.alloc (.map #[] 0)).alloc (.cells chNil 95)).heap[w2.heap.size + 1]? = some (.cells chNil 95 (0, 0)) := by
    have := heap_alloc_new (w2.alloc (.map #[] 0)) (.cells chNil 95)
    simpa using this
  go_wp2_with (refine wpList_store_row rfl 95 (.tmp 5) (.tmp 10) rfl (w2.heap.size + 1) (chRaw own bp w2.heap.size (.slice none 0 0)) rfl rfl 95 chNil hN2 infoCh rfl (chRaw_one ..) ?_)
  obtain ⟨w3, hw3⟩ : ∃ w3 : World, w3 = ((w2.alloc (.map #[] 0)).alloc (.cells chNil 95)).setRow (w2.heap.size + 1) (chRaw own bp w2.heap.size (.slice none 0 0)) := ⟨_, rfl⟩
  have g3 : w2.grownBy w3 none := by
    rw [hw3]
    have g0 : w2.grownBy ((w2.alloc (.map #[] 0)).alloc (.cells chNil 95)) none := grown_alloc (World.grownBy_alloc _ _ _) _
    exact ⟨g0.os, g0.tape, g0.output, by rw [setRow_size]; exact g0.size, fun k hk hne => (setRow_other _ _ _ _ (by omega)).trans (g0.block k hk hne)⟩
  have s3 : w3.heap.size = w2.heap.size + 1 + 1 := by rw [hw3, setRow_size]; simp
  have hY3 : w3.heap[w2.heap.size + 1]? = some (.cells (chRaw own bp w2.heap.size (.slice none 0 0)) 95 (0, 0)) := by
    rw [hw3]
    exact setRow_heap _ _ _ _ _ _ hN2
  have hM3 : w3.heap[w2.heap.size]? = some (.map #[] 0) := by
    rw [hw3, setRow_other _ _ _ _ (by omega)]
    exact (heap_alloc_old _ _ (by simp)).trans (heap_alloc_new w2 _)
  clear hN2
  rw [← hw3]
  clear hw3
  have s2 := blk_lt hp
  have hp3 := (g3.block bp s2 (by simp)).trans hp
  obtain ⟨kl0, hk0⟩ := keyH (u := 0) (c := own) (by omega) (by omega) (by omega) (by omega)
  obtain ⟨kl1, hk1⟩ := keyH (u := 1) (c := own) (by omega) (by omega) (by omega) (by omega)
  obtain ⟨kl2, hk2⟩ := keyH (u := 2) (c := own) (by omega) (by omega) (by omega) (by omega)
  obtain ⟨wa, ra, Ma, ta⟩ := (mapIs_made encH tHold hM3).store encH_inj lawH Tryz.underlying89 (by unfold maxLen; omega) hk0 (.int .u64 coins)
  obtain ⟨wb, rb, Mb, tb⟩ := Ma.store encH_inj lawH Tryz.underlying89 (by unfold putN maxLen; split <;> omega) hk1 (.int .u64 coins)
  obtain ⟨wc, rc, hMc, tc⟩ := Mb.store encH_inj lawH Tryz.underlying89 (by unfold putN maxLen; split <;> split <;> omega) hk2 (.int .u64 coins)
  have ga := ta.grown
  have gb := tb.grown
  have gd := tc.grown
  have hYa := (ga.block _ (blk_lt hY3) (by simp)).trans hY3
  have hYb := (gb.block _ (blk_lt hYa) (by simp)).trans hYa
  have hYc := (gd.block _ (blk_lt hYb) (by simp)).trans hYb
  have hpa := (ga.block _ (blk_lt hp3) (by simp; omega)).trans hp3
  have hpb := (gb.block _ (blk_lt hpa) (by simp; omega)).trans hpa
  have hpc := (gd.block _ (blk_lt hpb) (by simp; omega)).trans hpb
  have gc : w2.grownBy wc none := grown_trans (grown_trans (grown_trans g3 ga (fun k e => .inr (by cases e; exact Nat.le_refl _))) gb (fun k e => .inr (by cases e; exact Nat.le_refl _))) gd (fun k e => .inr (by cases e; exact Nat.le_refl _))
  have sc : w2.heap.size + 1 + 1 ≤ wc.heap.size := by have := ga.size; have := gb.size; have := gd.size; omega
  have f3 : w3.cell? ⟨w2.heap.size + 1, 10, none⟩ = some (.map (some w2.heap.size)) := by simp [World.cell?, hY3]
  have fa : wa.cell? ⟨w2.heap.size + 1, 10, none⟩ = some (.map (some w2.heap.size)) := by simp [World.cell?, hYa]
  have fb : wb.cell? ⟨w2.heap.size + 1, 10, none⟩ = some (.map (some w2.heap.size)) := by simp [World.cell?, hYb]
  simp only [encH] at ra rb rc
  clear hk0 hk1 hk2 Ma Mb ta tb tc ga gb gd hpa hpb hm hE
  refine wp_loop_rounds 4 ?_
  rw [rounds_succ]
  go_wp2_with fail
  rw [rounds_succ]
  go_wp2_with fail
  rw [rounds_succ]
  go_wp2_with fail
  rw [rounds_succ]
  go_wp2_with fail
  have s1 := blk_lt hR1
  have s12 := g2.size
  have hRc := ((gc.block _ (by omega) (by simp)).trans (g2.block _ s1 (by simp))).trans hR1
  refine (tell_nil (n0 := 0) rfl hYc hpc).mono ?_
  rintro e w4 ⟨rfl, e4, g4⟩
  have hY4 := e4.trans hYc
  have hR4 := (g4.block _ (blk_lt hRc) (by simp; omega)).trans hRc
  have hyl4 := blk_lt hY4
  have hrl4 := blk_lt hR4
  have hry : w.heap.size ≠ w2.heap.size + 1 := by omega
  have c13 : w4.cell? ⟨w2.heap.size + 1, 13, none⟩ = some (.slice none 0 0) := by simp [World.cell?, hY4]
  have cf : ∀ k, w4.frozen? ⟨w2.heap.size + 1, k, none⟩ = false := fun k => by simp [World.frozen?, hY4]
  clear ra rb rc f3 fa fb
  go_wp2_with (first
    | refine wpList_load_row rfl 95 (.tmp 5) rfl (w2.heap.size + 1) rfl 95 (chRaw own bp w2.heap.size (.slice (some ⟨w4.heap.size, 0, none⟩) 1 1)) (0, 0) _ ?hl Tryz.underlying95 rfl infoCh ?_
    | refine wpList_store_row rfl 95 (.tmp 4) (.tmp 26) rfl w.heap.size (chRaw own bp w2.heap.size (.slice (some ⟨w4.heap.size, 0, none⟩) 1 1)) rfl rfl 95 chNil ?hs infoCh rfl (chRaw_one ..) ?_)
  case hl =>
    refine (heap_alloc_old _ _ (by rw [setCell_size]; exact hyl4)).trans ((setCell_same hY4 _ _).trans ?_)
    rfl
  case hs => exact (heap_alloc_old _ _ (by rw [setCell_size]; exact hrl4)).trans ((setCell_other _ _ _ (by simp; omega)).trans hR4)
  obtain ⟨w5, hw5⟩ : ∃ w5 : World, w5 = (w4.setCell ⟨w2.heap.size + 1, 13, none⟩ (.slice (some ⟨w4.heap.size, 0, none⟩) 1 1)).alloc (.cells #[Value.int .u64 0, Value.int .u64 0, Value.bool true, Value.int .u64 1, Value.int .i64 0, Value.int .i64 0, Value.slice none 0 0, Value.slice none 0 0, Value.slice none 0 0] tHeader) := ⟨_, rfl⟩
  have g5 : w4.grownBy w5 (some (w2.heap.size + 1)) := by rw [hw5]; exact grown_alloc (grown_set (grown_refl _ _) ⟨w2.heap.size + 1, 13, none⟩ _ (.inl rfl)) _
  have hH5 : w5.heap[w4.heap.size]? = some (.cells #[Value.int .u64 0, Value.int .u64 0, Value.bool true, Value.int .u64 1, Value.int .i64 0, Value.int .i64 0, Value.slice none 0 0, Value.slice none 0 0, Value.slice none 0 0] tHeader (0, 0)) := by
    rw [hw5]
    have := heap_alloc_new (w4.setCell ⟨w2.heap.size + 1, 13, none⟩ (.slice (some ⟨w4.heap.size, 0, none⟩) 1 1)) (.cells #[Value.int .u64 0, Value.int .u64 0, Value.bool true, Value.int .u64 1, Value.int .i64 0, Value.int .i64 0, Value.slice none 0 0, Value.slice none 0 0, Value.slice none 0 0] tHeader)
    rw [setCell_size] at this
    exact this
  rw [← hw5]
  clear hw5
  refine bodyPost_ret (v := .agg (chRaw own bp w2.heap.size (.slice (some ⟨w4.heap.size, 0, none⟩) 1 1))) (results_cell_row Tryz.results31 _ _ w.heap.size 95 _ (0, 0) _ rfl (setRow_heap _ _ _ _ _ _ ((g5.block _ hrl4 (by simp; omega)).trans hR4)) Tryz.underlying95 rfl infoCh) rfl ?_
  have far : ∀ k, k < w4.heap.size → k ≠ w2.heap.size + 1 → k ≠ w.heap.size → (w5.setRow w.heap.size (chRaw own bp w2.heap.size (.slice (some ⟨w4.heap.size, 0, none⟩) 1 1))).heap[k]? = w4.heap[k]? := fun k h1 h2 h3 => (setRow_other _ _ _ _ h3).trans (g5.block k h1 (by simpa using h2))
  have farc : ∀ k, k < wc.heap.size → k ≠ w2.heap.size + 1 → k ≠ w.heap.size → (w5.setRow w.heap.size (chRaw own bp w2.heap.size (.slice (some ⟨w4.heap.size, 0, none⟩) 1 1))).heap[k]? = wc.heap[k]? := fun k h1 h2 h3 => (far k (by have := g4.size; omega) h2 h3).trans (g4.block k h1 (by simpa using h2))
  have z4 := g4.size
  have z5 := g5.size
  refine ⟨bp, w2.heap.size, w4.heap.size, _, _, rfl, (farc bp (by omega) (by omega) (by omega)).trans hpc, hMc.keep (farc _ (by omega) (by omega) (by omega)), by unfold putN; split <;> split <;> split <;> omega, funds3 own coins, ?_, ⟨by omega, by omega, by omega, by omega⟩, (setRow_other _ _ _ _ (by omega)).trans hH5, ?_⟩
  · exact ⟨rfl, .inr ⟨w4.heap.size, 1, _, rfl, Nat.zero_le _, (setRow_other _ _ _ _ (by omega)).trans hH5, by simp [HdN.cells, newHd, maxLen]⟩⟩
  · refine ⟨?_, ?_, ?_, ?_, fun k hk _ => ?_⟩
    · rw [setRow_os]; exact g5.os.trans (g4.os.trans (gc.os.trans (g2.os.trans g1.os)))
    · rw [setRow_tape]; exact g5.tape.trans (g4.tape.trans (gc.tape.trans (g2.tape.trans g1.tape)))
    · rw [setRow_output]; exact g5.output.trans (g4.output.trans (gc.output.trans (g2.output.trans g1.output)))
    · rw [setRow_size]; omega
    · rw [farc k (by omega) (by omega) (by omega), gc.block k (by omega) (by simp), g2.block k (by omega) (by simp), g1.block k hk (by simp)]

end

end Go.Proofs.YtmfdhcnnhlchbaaGreat
