import Derived.Test.YtmfdhcnnhlchbabC22
namespace Go.Proofs.Ytmfdhcnnhlchbab
open Go.RowKit Go.Maps

section
variable {P : Program} {ops : Array Oper} {Q : Exit → Act → World → Prop} {o : Oper} {rest : List Oper} {a : Act} {w w' : World} {v : Value}

theorem wl_value (hg : o.guard = none) (hr : (execOp a.eval o).run P w = .ok (.value v) w') (hk : wpList P ops Q rest (a.put o.dst v) w') : wpList P ops Q (o :: rest) a w := by
  refine wpList_plain hg fun K hK => ?_
  unfold Oper.wp
  rw [hr]
  exact hK _ _ hk

theorem wl_call {f : FuncId} {args : Array Value} {G : World → Prop} (hg : o.guard = none) (hr : (execOp a.eval o).run P w = .ok (.enter f args) w) (hc : Calls P f args w fun e w' => e = .returned v ∧ G w') (hk : ∀ w', G w' → wpList P ops Q rest (a.put o.dst v) w') : wpList P ops Q (o :: rest) a w := by
  refine wpList_plain hg fun K hK => ?_
  unfold Oper.wp
  rw [hr]
  refine hc.mono ?_
  rintro e w' ⟨rfl, h⟩
  exact hK _ _ (hk w' h)
end

/-- What stands behind i pairs. -/
structure At7 (x i : Nat) (a : Act) : Prop where
  size : a.tmps.size = 353
  defers : a.defers = []
  ptr : a.tmps.getD 3 undef = .pointer (some ⟨x, 0, none⟩)
  aggs : ∀ j d, j < i → dosB[j]? = some d → a.tmps.getD (48 + 2 * j) undef = .agg d.arr

theorem put_same (a : Act) (s : Nat) (v : Value) (h : s < a.tmps.size) : (a.put (some s) v).tmps.getD s undef = v := by
  simp [Act.put, Array.getD_eq_getD_getElem?, h]

theorem put_other (a : Act) (s t : Nat) (v : Value) (h : t ≠ s) : (a.put (some s) v).tmps.getD t undef = a.tmps.getD t undef := by
  simp [Act.put, Array.getD_eq_getD_getElem?, Ne.symm h]

theorem put_size (a : Act) (s : Nat) (v : Value) : (a.put (some s) v).tmps.size = a.tmps.size := by simp [Act.put]

theorem At7.next {x i : Nat} {a : Act} (h : At7 x i a) (hi : i < 59) {d : Dos} (hd : dosB[i]? = some d) (v : Value) : At7 x (i + 1) ((a.put (some (47 + 2 * i)) v).put (some (48 + 2 * i)) (.agg d.arr)) := by
  refine ⟨by rw [put_size, put_size]; exact h.size, h.defers, ?_, fun j e hj he => ?_⟩
  · rw [put_other _ _ _ _ (by omega), put_other _ _ _ _ (by omega)]; exact h.ptr
  · by_cases hji : j = i
    · subst hji
      rw [hd] at he
      cases he
      rw [put_same _ _ _ (by rw [put_size, h.size]; omega)]
    · rw [put_other _ _ _ _ (by omega), put_other _ _ _ _ (by omega)]
      exact h.aggs j e (by omega) he

theorem seven {v0 : World} {x : Nat} {Q : Exit → Act → World → Prop} (fin : ∀ a w, At7 x 59 a → v0.grownBy w none → wpList Try.prog (ops7 Try.f4) Q ((ops7 Try.f4).toList.drop 118) a w) :
    ∀ (n i : Nat), i + n = 59 → ∀ (a : Act) (w : World), At7 x i a → v0.grownBy w none → wpList Try.prog (ops7 Try.f4) Q ((ops7 Try.f4).toList.drop (2 * i)) a w := by
  intro n
  induction n with
  | zero =>
    intro i hi a w h g
    obtain rfl : i = 59 := by omega
    exact fin a w h g
  | succ n ih =>
    intro i hi a w h g
    obtain ⟨o1, o2, d, f, args, e, hd, g1, g2, d1, d2, r1, c1, r2⟩ := pairs i (by omega)
    rw [e]
    refine wl_call (G := fun w' => w.grownBy w' none) g1 (r1 a w) (c1 w) fun w1 gw => ?_
    rw [d1]
    refine wl_value g2 (r2 _ _ (put_same _ _ _ (by rw [h.size]; omega))) ?_
    rw [d2]
    exact ih (i + 1) (by omega) _ _ (h.next (by omega) hd _) (grown_trans g gw (fun k e => by cases e))

theorem cons_of {n : Nat} {l : List Value} (h : l.length = n + 1) : ∃ x l', l = x :: l' ∧ l'.length = n := by
  cases l with
  | nil => simp at h
  | cons x l' => exact ⟨x, l', rfl, by simpa using h⟩

theorem parts_eval {x : Nat} {a : Act} (h : At7 x 59 a) : ((List.range 59).map fun j => (j, Operand.tmp (48 + 2 * j))).toArray.map (fun (p : Nat × Operand) => (p.1, a.eval p.2)) = ((List.range 59).map fun j => (j, (Value.agg (dosB[j]?.getD ⟨0, 0, 0, pk0, 0, 0⟩).arr))).toArray := by
  rw [List.map_toArray, List.map_map]
  congr 1
  refine List.map_congr_left fun j hj => ?_
  have hj' : j < 59 := by simpa using hj
  obtain ⟨d, hd⟩ : ∃ d, dosB[j]? = some d := ⟨dosB[j]'(by show j < 59; exact hj'), List.getElem?_eq_getElem _⟩
  show (j, a.tmps.getD (48 + 2 * j) undef) = _
  rw [h.aggs j d hj' hd, hd]
  rfl

end Go.Proofs.Ytmfdhcnnhlchbab

namespace Go.Proofs.Ytmfdhcnnhlchbab
open Go.RowKit Go.Maps

theorem buildSlice_run {P : Program} {w : World} {t elem : TypeId} {len size : Nat} {parts : Array (Nat × Value)} {za : Array Value} {cells : Array Value} (h1 : (underlying t).run P w = .ok (.slice elem) w) (h2 : (sizeOf elem).run P w = .ok size w)
    (h3 : ¬ len * size > 2 ^ 24) (h4 : ¬ len * size = 0) (h5 : (zeroValue elem).run P w = .ok (.agg za) w) (h6 : Instr.fill (fun i => some (i * size, size)) ((Array.range (len * size)).map (za[· % za.size]!)) parts.toList = some cells) :
    (do pure (Next.value (← Instr.buildSlice t len parts)) : Sem Next).run P w = .ok (.value (.slice (some ⟨w.heap.size, 0, none⟩) len len)) (w.alloc (.cells cells elem)) := by
  unfold Instr.buildSlice
  go_simp

theorem put_list : ∀ (vs mid pre post : List Value) (k off : Nat), pre.length = off + k → mid.length = vs.length →
    (vs.zipIdx k).foldl (fun (cs : Array Value) (p : Value × Nat) => cs.setIfInBounds (off + p.2) p.1) (pre ++ (mid ++ post)).toArray = (pre ++ (vs ++ post)).toArray
  | [], mid, pre, post, k, off, _, hm => by
    obtain rfl : mid = [] := List.eq_nil_of_length_eq_zero (by simpa using hm)
    rfl
  | v :: vs, mid, pre, post, k, off, hp, hm => by
    obtain ⟨m, mid', rfl, hm'⟩ := cons_of (n := vs.length) (by simpa using hm)
    rw [List.zipIdx_cons, List.foldl_cons, List.setIfInBounds_toArray, List.set_append_right _ _ (by simp only; omega), show off + k - pre.length = 0 from by omega]
    have := put_list vs mid' (pre ++ [v]) post (k + 1) off (by simp; omega) hm'
    simpa using this

theorem fill_dos : ∀ (L : List Dos) (i : Nat) (pre post : List Value), pre.length = i * 12 → post.length = L.length * 12 →
    Instr.fill (fun i => some (i * 12, 12)) (pre ++ post).toArray ((L.zipIdx i).map fun p => (p.2, Value.agg p.1.arr)) = some (pre ++ L.flatMap Dos.cells).toArray
  | [], i, pre, post, _, hp => by
    obtain rfl : post = [] := List.eq_nil_of_length_eq_zero (by simpa using hp)
    simp [Instr.fill]
  | d :: L, i, pre, post, hpre, hp => by
    have hl : post.length = L.length * 12 + 12 := by simp at hp; omega
    have h1 : (post.take 12).length = 12 := by rw [List.length_take]; omega
    have h2 : (post.drop 12).length = L.length * 12 := by rw [List.length_drop]; omega
    have e : d.arr.zipIdx.foldl (fun (cs : Array Value) (p : Value × Nat) => cs.setIfInBounds (i * 12 + p.2) p.1) (pre ++ post).toArray = (pre ++ d.cells ++ post.drop 12).toArray := by
      rw [← Array.foldl_toList, Array.toList_zipIdx]
      have := put_list d.cells (post.take 12) pre (post.drop 12) 0 (i * 12) hpre (by rw [h1]; rfl)
      rw [List.take_append_drop] at this
      rw [List.append_assoc]
      exact this
    rw [List.zipIdx_cons, List.map_cons]
    unfold Instr.fill
    simp only
    rw [if_neg (by simp [Value.cells]; omega)]
    show Instr.fill (fun i => some (i * 12, 12)) (d.arr.zipIdx.foldl (fun (cs : Array Value) (p : Value × Nat) => cs.setIfInBounds (i * 12 + p.2) p.1) (pre ++ post).toArray) _ = _
    rw [e, fill_dos L (i + 1) (pre ++ d.cells) (post.drop 12) (by rw [List.length_append, hpre, show d.cells.length = 12 from rfl]; omega) h2]
    simp [List.flatMap_cons]

theorem parts_zip (a : Nat → Value) (hz : ∀ j d, dosB[j]? = some d → a j = .agg d.arr) : ((List.range 59).map fun j => (j, a j)) = (dosB.zipIdx 0).map fun p => (p.2, Value.agg p.1.arr) := by
  apply List.ext_getElem?
  intro j
  rw [List.getElem?_map, List.getElem?_map, List.getElem?_zipIdx]
  have hl : dosB.length = 59 := rfl
  by_cases hj : j < 59
  · obtain ⟨d, hd⟩ : ∃ d, dosB[j]? = some d := ⟨dosB[j], List.getElem?_eq_getElem (by omega)⟩
    rw [hd, List.getElem?_range hj]
    simp [hz j d hd]
  · rw [List.getElem?_eq_none (by simp; omega), List.getElem?_eq_none (by omega)]
    rfl

abbrev doZero : Array Value := #[.int .i64 0, .int .i64 0, .int .u64 0, .int .u64 0, .int .i64 0, .int .i64 0, .int .i64 0, .int .u64 0, .int .u64 0, .int .u64 0, .int .u64 0, .int .i64 0]

theorem slice_run (w : World) : (do pure (Next.value (← Instr.buildSlice 63 59 (((List.range 59).map fun j => (j, (Value.agg (dosB[j]?.getD ⟨0, 0, 0, pk0, 0, 0⟩).arr))).toArray))) : Sem Next).run Try.prog w = .ok (.value (.slice (some ⟨w.heap.size, 0, none⟩) 59 59)) (w.alloc (.cells (dosB.flatMap Dos.cells).toArray tDo)) := by
  refine buildSlice_run (za := doZero) (size := 12) (by kernel_rfl) (by kernel_rfl) (by decide) (by decide) (by kernel_rfl) ?_
  rw [parts_zip (fun j => Value.agg (dosB[j]?.getD ⟨0, 0, 0, pk0, 0, 0⟩).arr) (fun j d hd => by rw [hd]; rfl)]
  obtain ⟨X, hX⟩ : ∃ X : Array Value, X = (Array.range (59 * 12)).map (doZero[· % doZero.size]!) := ⟨_, rfl⟩
  have hlen : X.toList.length = dosB.length * 12 := by rw [hX, Array.length_toList, Array.size_map, Array.size_range]; rfl
  rw [← hX]
  have := fill_dos dosB 0 [] X.toList rfl hlen
  rw [List.nil_append, List.nil_append] at this
  exact this

end Go.Proofs.Ytmfdhcnnhlchbab
