import Derived.Test.YtmfdhcnnhlchbaaGreatC27
import Derived.Test.YtmfdhcnnhlchbaaGreatC20
import Derived.Test.YtmfdhcnnhlchbaaGreatC05
import Derived.Deep.QuietTactic
import Derived.BigQuiet
import Derived.BigRegion
namespace Go.Proofs.YtmfdhcnnhlchbaaGreat
open Go.RowKit Go.Maps Go.Sort Go.Shelf

set_option maxRecDepth 100000 in
set_option maxHeartbeats 1000000 in
theorem len64_zero (w : World) : Calls Tryz.prog 107 #[.int .u64 0] w fun e w' => e = .returned (.int .i64 0) ∧ w' = w := by
  go_enter Tryz.func107, Tryz.ntmps107
  go_wp2_with fail
  go_ret
  exact ⟨by kernel_rfl, rfl⟩

set_option maxRecDepth 100000 in
theorem len_zero (w : World) : Calls Tryz.prog 96 #[.int .u64 0] w fun e w' => e = .returned (.int .i64 0) ∧ w' = w := by
  go_enter Tryz.func96, Tryz.ntmps96
  go_wp2_with fail
  refine (len64_zero w).mono ?_
  rintro e w1 ⟨rfl, rfl⟩
  go_wp2_with fail
  go_ret
  exact ⟨rfl, rfl⟩

set_option maxRecDepth 100000 in
theorem insertion_nil (w : World) : Calls Tryz.prog 97 #[.slice none 0 0, .int .i64 0, .int .i64 0] w fun e w' => e = .returned (.tuple #[]) ∧ w' = w := by
  have hwz : IntKind.i64.wrap 1 = 1 := by decide
  go_enter Tryz.func97, Tryz.ntmps97
  go_wp2_with fail
  refine wp_loop_rounds 1 ?_
  rw [rounds_succ]
  go_wp2_with fail
  go_end0
  exact ⟨rfl, rfl⟩

set_option maxRecDepth 100000 in
set_option maxHeartbeats 1000000 in
theorem pdq_nil (w : World) : Calls Tryz.prog 95 #[.slice none 0 0, .int .i64 0, .int .i64 0, .int .i64 0] w fun e w' => e = .returned (.tuple #[]) ∧ w' = w := by
  have hwz : IntKind.i64.wrap 0 = 0 := by decide
  go_enter Tryz.func95, Tryz.ntmps95
  go_wp2_with fail
  refine wp_loop_rounds 1 ?_
  rw [rounds_succ]
  go_wp2_with fail
  refine (insertion_nil w).mono ?_
  rintro e w1 ⟨rfl, rfl⟩
  go_wp2_with fail
  refine bodyPost_ret (results_none rfl _ _ _) rfl ?_
  exact ⟨rfl, rfl⟩

set_option maxRecDepth 100000 in
theorem sort_nil (w : World) : Calls Tryz.prog 92 #[.slice none 0 0] w fun e w' => e = .returned (.tuple #[]) ∧ w' = w := by
  have hwz : IntKind.u64.wrap 0 = 0 := by decide
  go_enter Tryz.func92, Tryz.ntmps92
  go_wp2_with fail
  refine (len_zero w).mono ?_
  rintro e w1 ⟨rfl, rfl⟩
  go_wp2_with fail
  refine (pdq_nil w1).mono ?_
  rintro e w1 ⟨rfl, rfl⟩
  go_wp2_with fail
  go_end0
  exact ⟨rfl, rfl⟩

end Go.Proofs.YtmfdhcnnhlchbaaGreat

namespace Go.Proofs.YtmfdhcnnhlchbaaGreat
open Go.RowKit Go.Maps Go.Sort Go.Shelf

theorem empty_keys {w : World} {b : Nat} (h : w.heap[b]? = some (.map #[] 0)) : w.ownsMap Tryz.prog tU64 heldR b 0 (.map []) := ⟨#[], 0, h, ⟨by simp, Go.MapKept.stamped_empty 0, by simp⟩, Nat.le_refl _, rfl⟩

theorem below_grown {w w' : World} (h : Below w.heap.size w w') : w.grownBy w' none := ⟨h.os, h.tape, h.output, h.size, fun k hk _ => h.block k hk⟩

set_option maxRecDepth 100000 in
set_option maxHeartbeats 1000000 in
/-- slices.Sorted of the keys of a map, as the sort goes: S what the iterator gives, N how many at most. -/
theorem sorted_none {g : Nat} {lb : Array Value} (eg : ∀ args w, (callFunc g args).run Tryz.prog w = .ok (.enter g args) w) {S Sp : List Int → Prop} {N : Nat} (hlen : N ≤ maxLen) (hbytes : N * 8 ≤ 140737488355328) (w : World)
    (hseq : SeqStopsK Fence.wide 2 Tryz.prog g lb (fun x : Int => #[Value.int .u64 x]) KeepsWalks S Sp N w) (hS : ∀ ss, S ss → ss = []) :
    Calls Tryz.prog 73 #[.func (.func g) #[] lb] w fun e w' => e = .returned (.slice none 0 0) ∧ w.grownBy w' none := by
  have hc : Calls Tryz.prog 91 #[.func (.func g) #[] lb] w fun e w' => e = .returned (.slice none 0 0) ∧ w.grownBy w' none := by
    refine (callsIn_wide (n := 4)).1 ((collect_in Fence.wide 4 trivial trivial rfl (by omega) trivial eg hlen hbytes w hseq).mono ?_)
    rintro e w' ⟨v, ss, rfl, h1, hrow, hnil, hb⟩
    exact ⟨by rw [hnil.2 (hS ss h1)], below_grown hb⟩
  go_enter Tryz.func73, Tryz.ntmps73
  go_wp2_with fail
  refine hc.mono ?_
  rintro e w1 ⟨rfl, g1⟩
  go_wp2_with fail
  refine (sort_nil w1).mono ?_
  rintro e w2 ⟨rfl, rfl⟩
  go_wp2_with fail
  go_ret
  exact ⟨rfl, g1⟩

end Go.Proofs.YtmfdhcnnhlchbaaGreat

namespace Go.Proofs.YtmfdhcnnhlchbaaGreat
open Go.RowKit Go.Maps

theorem map_ne_blk {α : Type} {enc : α → Value} {P : Program} {kt : TypeId} {w : World} {b n x : Nat} {f : α → Option Value} {c : Array Value} {t : TypeId} {z : Nat × Nat} (h : MapIs P kt enc w b f n) (hx : w.heap[x]? = some (.cells c t z)) : b ≠ x := by
  obtain ⟨es, clock, hb⟩ := h.isMap
  intro e
  rw [e, hx] at hb
  cases hb

theorem map_ne_row {α : Type} {enc : α → Value} {P : Program} {kt : TypeId} {w : World} {b m n e size : Nat} {f : α → Option Value} {v : Value} {xs : List Value} (h : MapIs P kt enc w b f m) (hr : w.ownsRow 0 e size v n xs) : some b ≠ v.ownBlock := by
  rcases hr.2 with ⟨rfl, _⟩ | ⟨g, cap, cur, rfl, _, hg, _⟩
  · simp [Value.ownBlock]
  · intro e1
    simp [Value.ownBlock] at e1
    exact map_ne_blk h hg e1

/-- A chain's new state, put together. -/
theorem dev_build {lab : Nat → Nat} {l : Nat} {w w' : World} {x : Nat} {pre post : List Value} {S S' : Ch} {K K' : Hd} {a a' : DAt} {B B' : Nat} (h : DevCh lab l w x pre post S K a B) (hl : l ≠ 0)
    (hos : w'.os = w.os) (htape : w'.tape = w.tape) (hout : w'.output = w.output) (hsz : w.heap.size ≤ w'.heap.size) (hkeep : ∀ k, k < w.heap.size → lab k ≠ l → k ≠ x → w'.heap[k]? = w.heap[k]?)
    (hB : w'.heap[x]? = some (.cells (pre ++ dchCells S' K' a' ++ post).toArray tBr (0, 0)))
    (hm : a'.bp = a.bp ∧ a'.bf = a.bf ∧ a'.kp = a.kp ∧ a'.ka = a.ka)
    (pend : MapIs Tryz.prog tU64 encU w' a'.bp (pkF S'.hd.packets) S'.hd.packets.length) (fund : MapIs Tryz.prog tHold encH w' a'.bf a'.ff a'.nf) (kpk : MapIs Tryz.prog tU64 encU w' a'.kp (pkF K'.packets) K'.packets.length) (kan : MapIs Tryz.prog tU64 encU w' a'.ka (ansF K'.answers) K'.answers.length)
    (sent : w'.ownsRow 0 tPk 7 a'.vs a'.sent.length (a'.sent.flatMap Pk.cells)) (lsent : ∀ k, a'.vs.ownBlock = some k → k < w.heap.size → lab k = l)
    (gone : w'.ownsRow 0 tU64 1 a'.vg a'.gone.length (a'.gone.map encU)) (lgone : ∀ k, a'.vg.ownBlock = some k → k < w.heap.size → lab k = l)
    (ans : w'.ownsRow 0 tAnsw 1 a'.va a'.ans.length (a'.ans.map ansV)) (lans : ∀ k, a'.va.ownBlock = some k → k < w.heap.size → lab k = l)
    (heads : w'.ownsRow 0 tHeader 9 a'.vh a'.hs.length (a'.hs.flatMap HdN.cells)) (lheads : ∀ k, a'.vh.ownBlock = some k → k < w.heap.size → lab k = l)
    (each : ∀ y ∈ a'.hs, y ∈ a.hs ∨ ((w'.ownsRow 0 tPk 7 y.vs y.sent.length (y.sent.flatMap Pk.cells) ∧ ∀ k, y.vs.ownBlock = some k → w.heap.size ≤ k ∧ some k ≠ a'.vs.ownBlock) ∧ (w'.ownsRow 0 tU64 1 y.vg y.gone.length (y.gone.map encU) ∧ ∀ k, y.vg.ownBlock = some k → w.heap.size ≤ k ∧ some k ≠ a'.vg.ownBlock) ∧
      (w'.ownsRow 0 tAnsw 1 y.va y.ans.length (y.ans.map ansV) ∧ ∀ k, y.va.ownBlock = some k → w.heap.size ≤ k ∧ some k ≠ a'.va.ownBlock)))
    (hsS : a'.hs.map HdN.hd = S'.heads) (fok : FundsOk a'.ff S') (good : GoodCh S' a' B') (goodK : GoodHd K' B') : DevTo lab l w x pre post S' K' B' w' := by
  have hxl := blk_lt h.blk
  obtain ⟨m1, m2, m3, m4⟩ := h.lmap
  obtain ⟨n1, n2, n3, n4⟩ := hm
  have lab_ok : ∀ (v : Value), (v = a'.vs ∨ v = a'.vg ∨ v = a'.va ∨ v = a'.vh) → (∀ k, v.ownBlock = some k → k < w.heap.size → lab k = l) →
      labelled (fun k => if k < w.heap.size then lab k else if some k = a'.vs.ownBlock ∨ some k = a'.vg.ownBlock ∨ some k = a'.va.ownBlock ∨ some k = a'.vh.ownBlock then l else 0) v l := by
    intro v hv hlv k e
    by_cases hk : k < w.heap.size
    · simp only [hk, if_true]; exact hlv k e hk
    · simp only [hk, if_false]
      rw [if_pos]
      rcases hv with rfl | rfl | rfl | rfl
      · exact .inl e.symm
      · exact .inr (.inl e.symm)
      · exact .inr (.inr (.inl e.symm))
      · exact .inr (.inr (.inr e.symm))
  refine ⟨fun k => if k < w.heap.size then lab k else if some k = a'.vs.ownBlock ∨ some k = a'.vg.ownBlock ∨ some k = a'.va.ownBlock ∨ some k = a'.vh.ownBlock then l else 0, a',
    ⟨hB, ?_, pend, fund, kpk, kan, ?_, ?_, sent, lab_ok _ (.inl rfl) lsent, gone, lab_ok _ (.inr (.inl rfl)) lgone, ans, lab_ok _ (.inr (.inr (.inl rfl))) lans, heads, lab_ok _ (.inr (.inr (.inr rfl))) lheads, ?_, hsS, fok, good, goodK⟩, ⟨hos, htape, hout, hsz, ?_, hkeep, ?_⟩⟩
  · simp only [hxl, if_true]; exact h.lx
  · rw [n1, n2, n3, n4]
    simp only [h.pend.lt, h.fund.lt, h.kpk.lt, h.kan.lt, if_true]
    exact ⟨m1, m2, m3, m4⟩
  · rw [n1, n2, n3, n4]; exact h.apart
  · intro y hy
    rcases each y hy with e | ⟨⟨a1, a2⟩, ⟨b1, b2⟩, c1, c2⟩
    · exact (h.each y e).keep (fun k hk e0 => hkeep k hk (by rw [e0]; exact fun e1 => hl e1.symm) (fun e1 => h.lx.2 (by rw [← e1]; exact e0))) (fun k hk => by simp [hk])
    · refine ⟨⟨a1, fun k e => ?_⟩, ⟨b1, fun k e => ?_⟩, c1, fun k e => ?_⟩
      · have hk : ¬ k < w.heap.size := by have := (a2 k e).1; omega
        simp only [hk, if_false]
        rw [if_neg]
        rintro (e1 | e1 | e1 | e1)
        · exact (a2 k e).2 e1
        · exact row_apart a1 gone (by decide) k e e1
        · exact row_apart a1 ans (by decide) k e e1
        · exact row_apart a1 heads (by decide) k e e1
      · have hk : ¬ k < w.heap.size := by have := (b2 k e).1; omega
        simp only [hk, if_false]
        rw [if_neg]
        rintro (e1 | e1 | e1 | e1)
        · exact row_apart b1 sent (by decide) k e e1
        · exact (b2 k e).2 e1
        · exact row_apart b1 ans (by decide) k e e1
        · exact row_apart b1 heads (by decide) k e e1
      · have hk : ¬ k < w.heap.size := by have := (c2 k e).1; omega
        simp only [hk, if_false]
        rw [if_neg]
        rintro (e1 | e1 | e1 | e1)
        · exact row_apart c1 sent (by decide) k e e1
        · exact row_apart c1 gone (by decide) k e e1
        · exact (c2 k e).2 e1
        · exact row_apart c1 heads (by decide) k e e1
  · intro k hk
    simp [hk]
  · intro k h1 h2
    have hk : ¬ k < w.heap.size := by omega
    simp only [hk, if_false]
    split
    · exact .inl rfl
    · exact .inr rfl

/-- Of what was there, at most block x, the map bm and the row r have turned. -/
structure Turned (x : Nat) (bm r : Option Nat) (w w' : World) : Prop where
  os : w'.os = w.os
  tape : w'.tape = w.tape
  output : w'.output = w.output
  size : w.heap.size ≤ w'.heap.size
  block : ∀ k, k < w.heap.size → k ≠ x → some k ≠ bm → some k ≠ r → w'.heap[k]? = w.heap[k]?

theorem Turned.refl (x : Nat) (bm r : Option Nat) (w : World) : Turned x bm r w w := ⟨rfl, rfl, rfl, Nat.le_refl _, fun _ _ _ _ _ => rfl⟩

theorem Turned.trans {x : Nat} {bm r bm' r' : Option Nat} {w w1 w2 : World} (h : Turned x bm r w w1) (g : Turned x bm' r' w1 w2) (hm : ∀ k, bm' = some k → bm = some k ∨ w.heap.size ≤ k) (hr : ∀ k, r' = some k → r = some k ∨ w.heap.size ≤ k) : Turned x bm r w w2 :=
  ⟨g.os.trans h.os, g.tape.trans h.tape, g.output.trans h.output, Nat.le_trans h.size g.size, fun k hk h1 h2 h3 =>
    (g.block k (Nat.lt_of_lt_of_le hk h.size) h1 (fun e => (hm k e.symm).elim (fun e1 => h2 e1.symm) (fun e1 => by omega)) (fun e => (hr k e.symm).elim (fun e1 => h3 e1.symm) (fun e1 => by omega))).trans (h.block k hk h1 h2 h3)⟩

theorem turned_x {x : Nat} {bm r : Option Nat} {w w' : World} (g : w.grownBy w' (some x)) : Turned x bm r w w' := ⟨g.os, g.tape, g.output, g.size, fun k hk h1 _ _ => g.block k hk (by simpa using h1)⟩
theorem turned_r {x : Nat} {bm r : Option Nat} {w w' : World} (g : w.grownBy w' r) : Turned x bm r w w' := ⟨g.os, g.tape, g.output, g.size, fun k hk _ _ h3 => g.block k hk h3⟩
theorem turned_m {x b : Nat} {r : Option Nat} {w w' : World} (g : w.grownBy w' (some b)) : Turned x (some b) r w w' := ⟨g.os, g.tape, g.output, g.size, fun k hk _ h2 _ => g.block k hk h2⟩
theorem turned_n {x : Nat} {bm r : Option Nat} {w w' : World} (g : w.grownBy w' none) : Turned x bm r w w' := ⟨g.os, g.tape, g.output, g.size, fun k hk _ _ _ => g.block k hk (by simp)⟩

theorem turned_drew {x : Nat} {bm r : Option Nat} {w w' : World} (t : Turned x bm r w.drew w') : Turned x bm r w w' := ⟨t.os, t.tape, t.output, t.size, t.block⟩

/-- An append in a drawn region, then the cell. -/
theorem Turned.app {x : Nat} {bm r : Option Nat} {w w3 w4 : World} {X : Obj} {ad : Addr} {v : Value} (t : Turned x bm r w w3) (g : (w3.alloc X).drew.grownBy w4 r) (hx : ad.block = x) : Turned x bm r w (w4.setCell ad v) := by
  refine ⟨g.os.trans t.os, g.tape.trans t.tape, g.output.trans t.output, ?_, fun k hk h1 h2 h3 => ?_⟩
  · have := g.size; have := t.size; rw [setCell_size]; simp at *; omega
  · have := t.size
    rw [setCell_other _ _ _ (by rw [hx]; exact h1), g.block k (by simp; omega) h3]
    exact (heap_alloc_old w3 X (by omega)).trans (t.block k hk h1 h2 h3)

/-- A map stays under such an append. -/
theorem map_app {α : Type} {enc : α → Value} {P : Program} {kt : TypeId} {b n : Nat} {r : Option Nat} {w3 w4 : World} {f : α → Option Value} {X : Obj} {ad : Addr} {v : Value} (hm : MapIs P kt enc w3 b f n) (g : (w3.alloc X).drew.grownBy w4 r) (h1 : b ≠ ad.block) (h2 : some b ≠ r) : MapIs P kt enc (w4.setCell ad v) b f n := by
  refine hm.keep ?_
  have := hm.lt
  rw [setCell_other _ _ _ h1, g.block b (by simp; omega) h2]
  exact heap_alloc_old w3 X this

theorem Turned.row {x : Nat} {bm r : Option Nat} {w w' : World} {c : Array Value} {tb e size n : Nat} {z : Nat × Nat} {v : Value} {xs : List Value} (t : Turned x bm r w w') (hx : w.heap[x]? = some (.cells c tb z)) (hr : w.ownsRow 0 e size v n xs) (hne : tb ≠ e)
    (hbm : bm ≠ none → bm ≠ v.ownBlock) (hrow : ∀ k, v.ownBlock = some k → some k ≠ r) : w'.ownsRow 0 e size v n xs :=
  owns_keep hr fun k e1 => t.block k (owns_lt hr e1) (fun e2 => owns_ne hx hr hne (by rw [e1, e2])) (fun e2 => hbm (by rw [← e2]; simp) (by rw [e1, e2])) (hrow k e1)

theorem Turned.map {α : Type} {enc : α → Value} {P : Program} {kt : TypeId} {x b n : Nat} {bm r : Option Nat} {w w' : World} {f : α → Option Value} {c : Array Value} {tb : TypeId} {z : Nat × Nat} (t : Turned x bm r w w') (hx : w.heap[x]? = some (.cells c tb z)) (hm : MapIs P kt enc w b f n)
    (hne : some b ≠ bm) (hr : some b ≠ r) : MapIs P kt enc w' b f n :=
  hm.keep (t.block b hm.lt (map_ne_blk hm hx) hne hr)

theorem Turned.keep {lab : Nat → Nat} {l x : Nat} {bm r : Option Nat} {w w' : World} (t : Turned x bm r w w') (hm : ∀ k, bm = some k → lab k = l) (hr : ∀ k, r = some k → lab k = l) : ∀ k, k < w.heap.size → lab k ≠ l → k ≠ x → w'.heap[k]? = w.heap[k]? :=
  fun k hk h1 h2 => t.block k hk h2 (fun e => h1 (hm k e.symm)) (fun e => h1 (hr k e.symm))

theorem lab_fresh {lab : Nat → Nat} {l : Nat} {w w0 : World} {v v' : Value} (h : labelled lab v l) (hf : fresh w0 v v') (hs : w.heap.size ≤ w0.heap.size) : ∀ k, v'.ownBlock = some k → k < w.heap.size → lab k = l := by
  intro k e hk
  rcases hf k e with e1 | e1
  · exact h k e1
  · omega

theorem app_keep {w3 w4 : World} {X O : Obj} {b : Nat} {row : Option Nat} (hB3 : w3.heap[b]? = some O) (hg : (w3.alloc X).drew.grownBy w4 row) (hne : some b ≠ row) : w4.heap[b]? = some O := by
  have hb := blk_lt hB3
  rw [hg.block b (by simp; omega) hne]
  exact (heap_alloc_old w3 X hb).trans hB3

theorem src_row {w : World} {t size : Nat} (cs : List Value) (hc : cs.length = size) : srcRow (w.alloc (.cells cs.toArray t)) size (.slice (some ⟨w.heap.size, 0, none⟩) 1 1) 1 cs := by
  refine ⟨by omega, .inr ⟨_, _, rfl, ?_⟩⟩
  intro j u hj
  rw [Addr.add_lit]
  rw [cell_of_row _ _ _ _ _ _ (heap_alloc_new w (.cells cs.toArray t))]
  simpa using hj

theorem find_none_of {l : List Pk} {n : Int} (h : ∀ p ∈ l, p.seq < n) : (l.find? fun p => p.seq == n) = none := by
  rw [List.find?_eq_none]
  intro p hp
  have := h p hp
  simp
  omega

theorem pkF_snoc {l : List Pk} {p : Pk} (h : ∀ r ∈ l, r.seq < p.seq) (k : Int) : pkF (l ++ [p]) k = putF (pkF l) p.seq p.agg k := by
  unfold pkF putF
  rw [List.find?_append]
  by_cases e : k = p.seq
  · subst e
    rw [find_none_of h]
    simp
  · rw [if_neg e]
    have : (p.seq == k) = false := by simp; exact fun e1 => e e1.symm
    simp [this]

theorem delF_putF {f : Int → Option Value} {k j : Int} {v : Value} (h : k ≠ j) : delF (putF f k v) j = putF (delF f j) k v := by
  funext i
  simp only [delF, putF]
  by_cases e : i = j
  · subst e
    rw [if_pos rfl, if_neg (fun e1 => h e1.symm), if_pos rfl]
  · by_cases e1 : i = k
    · rw [if_neg e, if_pos e1, if_pos e1]
    · rw [if_neg e, if_neg e1, if_neg e1, if_neg e]

theorem gone_putF {k : Int} {v : Value} : ∀ (l : List Int) (f : Int → Option Value), (∀ j ∈ l, j ≠ k) → l.foldl delF (putF f k v) = putF (l.foldl delF f) k v
  | [], _, _ => rfl
  | j :: l, f, h => by
    simp only [List.foldl_cons]
    rw [delF_putF (fun e => h j (by simp) e.symm)]
    exact gone_putF l _ (fun i hi => h i (by simp [hi]))

theorem learnP_snoc {f : Int → Option Value} {sent : List Pk} {gone : List Int} {p : Pk} (h : ∀ j ∈ gone, j ≠ p.seq) : learnP f (sent ++ [p]) gone = putF (learnP f sent gone) p.seq p.agg := by
  unfold learnP
  rw [List.foldl_append]
  exact gone_putF gone _ h

end Go.Proofs.YtmfdhcnnhlchbaaGreat

namespace Go.Proofs.YtmfdhcnnhlchbaaGreat
open Go.RowKit Go.Maps

def Ch.posted (S : Ch) (p : Pk) : Ch := { S with nextSend := IntKind.u64.wrap (S.nextSend + 1), hd := { S.hd with packets := S.hd.packets ++ [{ p with seq := S.nextSend }] } }

theorem wrap_next {n : Int} {B : Nat} (h0 : 1 ≤ n) (h1 : n ≤ B + 1) (hB : B ≤ 10000000) : IntKind.u64.wrap (n + 1) = n + 1 := by
  simp [IntKind.wrap, IntKind.bits, IntKind.signed]
  omega

theorem posted_good {S : Ch} {a : DAt} {B : Nat} {p : Pk} (g : GoodCh S a B) (hB : B ≤ 10000000) (hv : (0 ≤ p.src ∧ p.src ≤ 2) ∧ (0 ≤ p.coin ∧ p.coin ≤ 1)) (a4 : Option Addr) (k4 : Nat) : GoodCh (S.posted p) { a with sent := a.sent ++ [{ p with seq := S.nextSend }], ap := a4, cp := k4 } (B + 1) := by
  obtain ⟨L, hL, hN⟩ := g.news
  have hw := wrap_next g.send.1 g.send.2 hB
  have h0 := g.mono (Nat.le_succ B)
  have hs := g.send
  refine ⟨⟨g.hd.recv, g.hd.ans, ?_, ?_, ?_, ?_, ?_⟩, ?_, ?_, ?_, h0.heads, h0.lh, ?_, h0.lg, h0.lan, h0.lf, ⟨L, hL, ⟨?_, hN.a⟩⟩, g.told, h0.lens, ?_, h0.hseq⟩
  · show (S.hd.packets ++ [_]).Pairwise _
    rw [List.pairwise_append]
    exact ⟨g.hd.seqs, List.pairwise_singleton _ _, fun r hr s hs => by simp at hs; subst hs; exact g.below r hr⟩
  · intro r hr
    simp only [Ch.posted, List.mem_append, List.mem_singleton] at hr
    rcases hr with hr | rfl
    · exact h0.hd.pos r hr
    · simp; omega
  · intro r hr
    simp only [Ch.posted, List.mem_append, List.mem_singleton] at hr
    rcases hr with hr | rfl
    · exact g.hd.val r hr
    · exact hv
  · have := g.hd.lp; simp [Ch.posted]; omega
  · have := g.hd.la; simp [Ch.posted]; omega
  · simp only [Ch.posted]; rw [hw]; omega
  · intro r hr
    simp only [Ch.posted, List.mem_append, List.mem_singleton] at hr ⊢
    rw [hw]
    rcases hr with hr | rfl
    · have := g.below r hr; omega
    · simp; omega
  · intro k hk
    have := g.gone k hk
    simp only [Ch.posted]
    rw [hw]; omega
  · have := g.ls; simp; omega
  · intro k
    show pkF (S.hd.packets ++ [_]) k = _
    rw [pkF_snoc (fun r hr => g.below r hr), learnP_snoc (fun j hj => by have := g.gone j hj; simp; omega)]
    have : pkF S.hd.packets = learnP (pkF L.hd.packets) a.sent a.gone := funext hN.p
    rw [this]
  · intro r hr
    simp only [List.mem_append, List.mem_singleton] at hr
    rcases hr with hr | rfl
    · exact h0.sseq r hr
    · simp; omega

theorem post_done {lab : Nat → Nat} {l : Nat} {w w' : World} {x : Nat} {pre post : List Value} {S : Ch} {K : Hd} {a : DAt} {B : Nat} (h : DevCh lab l w x pre post S K a B) (hl : l ≠ 0) (hB : B ≤ 10000000) (p : Pk) (hv : (0 ≤ p.src ∧ p.src ≤ 2) ∧ (0 ≤ p.coin ∧ p.coin ≤ 1)) (t : Turned x (some a.bp) a.vs.ownBlock w w')
    (a4 : Option Addr) (k4 : Nat) (hx : w'.heap[x]? = some (.cells (pre ++ dchCells (S.posted p) K { a with sent := a.sent ++ [{ p with seq := S.nextSend }], ap := a4, cp := k4 } ++ post).toArray tBr (0, 0)))
    (hM : MapIs Tryz.prog tU64 encU w' a.bp (putF (pkF S.hd.packets) S.nextSend (Pk.agg { p with seq := S.nextSend })) (putN (pkF S.hd.packets) S.nextSend S.hd.packets.length))
    (hR : w'.ownsRow 0 tPk 7 (.slice a4 (a.sent.length + 1) k4) (a.sent.length + 1) (a.sent.flatMap Pk.cells ++ Pk.cells { p with seq := S.nextSend })) (hf : ∀ k, (Value.slice a4 (a.sent.length + 1) k4).ownBlock = some k → k < w.heap.size → lab k = l) :
    DevTo lab l w x pre post (S.posted p) K (B + 1) w' := by
  obtain ⟨⟨n1, n2, n3⟩, ⟨n4, n5⟩, n6⟩ := h.apart
  have hnone : pkF S.hd.packets S.nextSend = none := by unfold pkF; rw [find_none_of (fun r hr => h.good.below r hr)]; rfl
  refine dev_build (a' := { a with sent := a.sent ++ [{ p with seq := S.nextSend }], ap := a4, cp := k4 }) h hl t.os t.tape t.output t.size (t.keep (fun k e => by cases e; exact h.lmap.1) (fun k e => h.lsent k e)) hx ⟨rfl, rfl, rfl, rfl⟩ ?_ ?_ ?_ ?_ ?_ ?_ ?_ ?_ ?_ ?_ ?_ ?_ ?_ ?_ ?_ (posted_good h.good hB hv a4 k4) (h.goodK.mono (Nat.le_succ B))
  · refine (hM.cong (fun k kl _ => ?_)).congN ?_
    · show pkF (S.hd.packets ++ [_]) k = _
      rw [pkF_snoc (fun r hr => h.good.below r hr)]
    · simp [putN, hnone, Ch.posted]
  · exact t.map h.blk h.fund (by simp; exact fun e => n1 e.symm) (map_ne_row h.fund h.sent)
  · exact t.map h.blk h.kpk (by simp; exact fun e => n2 e.symm) (map_ne_row h.kpk h.sent)
  · exact t.map h.blk h.kan (by simp; exact fun e => n3 e.symm) (map_ne_row h.kan h.sent)
  · simpa [DAt.vs] using hR
  · intro k e; exact hf k (by simpa [DAt.vs] using e)
  · exact t.row h.blk h.gone (by decide) (fun _ => map_ne_row h.pend h.gone) (row_apart h.gone h.sent (by decide))
  · exact fun k e _ => h.lgone k e
  · exact t.row h.blk h.ans (by decide) (fun _ => map_ne_row h.pend h.ans) (row_apart h.ans h.sent (by decide))
  · exact fun k e _ => h.lans k e
  · exact t.row h.blk h.heads (by decide) (fun _ => map_ne_row h.pend h.heads) (row_apart h.heads h.sent (by decide))
  · exact fun k e _ => h.lheads k e
  · exact fun y hy => .inl hy
  · exact h.hsS
  · exact h.fok

set_option maxRecDepth 100000 in
set_option maxHeartbeats 800000 in
theorem post_any {lab : Nat → Nat} {l : Nat} {w : World} {x q : Nat} {pre post : List Value} {S : Ch} {K : Hd} {a : DAt} {B : Nat} (h : DevCh lab l w x pre post S K a B) (hl : l ≠ 0) (hq : pre.length = q) (hB : B ≤ 10000000) (p : Pk) (hv : (0 ≤ p.src ∧ p.src ≤ 2) ∧ (0 ≤ p.coin ∧ p.coin ≤ 1)) :
    Calls Tryz.prog 81 #[.pointer (some ⟨x, q, none⟩), p.agg] w fun e w' => e = .returned (.int .u64 S.nextSend) ∧ DevTo lab l w x pre post (S.posted p) K (B + 1) w' := by
  obtain ⟨c0, c1, c2, c3, c4, c5, c6, c7, c8, c9, c10, c11, c12, c13, c14, c15, c16, c17, c18, c19, c20, c21, cf⟩ := dch_cells h.blk hq
  have hxl : x < w.heap.size := blk_lt h.blk
  go_enter Tryz.func81, Tryz.ntmps81
  go_wp2_with fail
  obtain ⟨w1, hw1⟩ : ∃ w1 : World, w1 = (w.setCell ⟨x, q + 1, none⟩ (.int .u64 (IntKind.u64.wrap (S.nextSend + 1)))).alloc (.cells (Pk.arr { p with seq := S.nextSend }) tPk) := ⟨_, rfl⟩
  rw [← hw1]
  have g1 : w.grownBy w1 (some x) := by rw [hw1]; exact grown_alloc (grown_set (grown_refl w _) _ _ (.inl rfl)) _
  have hB1 : w1.heap[x]? = some (.cells (pre ++ dchCells { S with nextSend := IntKind.u64.wrap (S.nextSend + 1) } K a ++ post).toArray tBr (0, 0)) := by
    rw [hw1, heap_alloc_old _ _ (by rw [setCell_size]; exact hxl)]
    exact blkq_set h.blk hq 1 (by simp [dchCells]) _
  have hX1 : w1.heap[w.heap.size]? = some (.cells (Pk.arr { p with seq := S.nextSend }) tPk (0, 0)) := by
    rw [hw1, ← setCell_size w ⟨x, q + 1, none⟩ (.int .u64 (IntKind.u64.wrap (S.nextSend + 1)))]
    exact heap_alloc_new _ _
  have hM1 : MapIs Tryz.prog tU64 encU w1 a.bp (pkF S.hd.packets) S.hd.packets.length := h.pend.keep (g1.block _ h.pend.lt (by simpa using map_ne_blk h.pend h.blk))
  have hlp := h.good.hd.lp
  obtain ⟨w2, hrun, hM2, ht2⟩ := (hM1.keep (w' := w1.drew) rfl).store encU_inj lawU Tryz.underlying83 (by unfold maxLen; omega) (keyU (k := S.nextSend) (by have := h.good.send.1; omega) (by have := h.good.send.2; omega)) (Pk.agg { p with seq := S.nextSend })
  clear c0 c1 c2 c3 c4 c5 c6 c7 c8 c9 c10 c11 c12 c13 c14 c15 c16 c17 c18 c19 c20 c21 cf hw1
  obtain ⟨c0, c1, c2, c3, c4, c5, c6, c7, c8, c9, c10, c11, c12, c13, c14, c15, c16, c17, c18, c19, c20, c21, cf⟩ := dch_cells hB1 hq
  obtain ⟨x0, x1, x2, x3, x4, x5, x6, xf⟩ := blk7 hX1
  simp only [encU] at hrun
  go_region
  have hP2 : w2.ownsRow 0 tPk 7 (.slice a.ap a.sent.length a.cp) a.sent.length (a.sent.flatMap Pk.cells) := by
    refine owns_keep h.sent fun k e => ?_
    have hk := owns_lt h.sent e
    rw [ht2.grown.block k (Nat.lt_of_lt_of_le hk g1.size) (fun e1 => map_ne_row h.pend h.sent (by rw [e1] at e; exact e.symm))]
    exact g1.block k hk (fun e1 => owns_ne h.blk h.sent (by decide) (by rw [e, e1]))
  have hbx : a.bp ≠ x := map_ne_blk h.pend h.blk
  have hbX : w.heap.size ≠ a.bp := by have := h.pend.lt; omega
  have hB2 := (ht2.grown.block x (blk_lt hB1) (by simp; exact fun e => hbx e.symm)).trans hB1
  have hX2 := (ht2.grown.block w.heap.size (blk_lt hX1) (by simp; exact hbX)).trans hX1
  clear c0 c1 c2 c3 c4 c5 c6 c7 c8 c9 c10 c11 c12 c13 c14 c15 c16 c17 c18 c19 c20 c21 cf x0 x1 x2 x3 x4 x5 x6 xf hrun
  obtain ⟨c0, c1, c2, c3, c4, c5, c6, c7, c8, c9, c10, c11, c12, c13, c14, c15, c16, c17, c18, c19, c20, c21, cf⟩ := dch_cells hB2 hq
  obtain ⟨x0, x1, x2, x3, x4, x5, x6, xf⟩ := blk7 hX2
  obtain ⟨i0, hi0, z0, s0, y0⟩ := info_parts infoPk
  have hls := h.good.ls
  have hnb : some x ≠ (Value.slice a.ap a.sent.length a.cp).ownBlock := owns_ne hB2 hP2 (by decide)
  have hnx : some w.heap.size ≠ (Value.slice a.ap a.sent.length a.cp).ownBlock := fun e => by have := owns_lt h.sent e.symm; omega
  have hxl2 : x < w2.heap.size := blk_lt hB2
  have hXl2 : w.heap.size < w2.heap.size := blk_lt hX2
  go_wp2_with fail
  go_region_law (refine step_append_rows rfl (.tmp 29) (.tmp 31) 57 rfl 28 i0 _ 7 56 Tryz.underlying57 hi0 z0 s0 y0 rfl (by decide) (.slice a.ap a.sent.length a.cp) a.sent.length (a.sent.flatMap Pk.cells) (by simp [Act.eval]) (by exact hP2.alloc _) (.slice (some ⟨w2.heap.size, 0, none⟩) 1 1) 1 (Pk.cells { p with seq := S.nextSend }) (by simp [Act.eval]) (by exact src_row (Pk.cells { p with seq := S.nextSend }) rfl) (by exact Pk.one _) (by omega) (by omega) ?_; intro v4 w4 own4 grow4 lab4; obtain ⟨d0, d1, d2, d3, d4, d5, d6, d7, d8, d9, d10, d11, d12, d13, d14, d15, d16, d17, d18, d19, d20, d21, df⟩ := dch_cells (app_keep hB2 grow4 hnb) hq; obtain ⟨y0, y1, y2, y3, y4, y5, y6, yf⟩ := blk7 (app_keep hX2 grow4 hnx); obtain ⟨a4, k4, hv4⟩ := owns_form own4; rw [hv4])
  all_goals
    go_wp2_with fail
    subst hv4
    go_ret
    refine ⟨rfl, post_done h hl hB p hv ?_ a4 k4 ?_ ?_ ?_ ?_⟩
    · exact Turned.app ((turned_x g1).trans (turned_drew (turned_m ht2.grown)) (fun k e => .inl e) (fun k e => .inl e)) grow4 rfl
    · have := blkq_set (app_keep hB2 grow4 hnb) hq 4 (by simp [dchCells]) (.slice a4 (a.sent.length + 1) k4)
      simpa [dchCells, Ch.posted, DAt.vs, DAt.vg, DAt.va, DAt.vh] using this
    · exact map_app hM2 grow4 hbx (map_ne_row h.pend h.sent)
    · exact owns_keep own4 fun k e => setCell_other _ _ _ (fun e1 => owns_ne (app_keep hB2 grow4 hnb) own4 (by decide) (by rw [e, e1]))
    · exact lab_fresh h.lsent lab4 (by have := g1.size; have := ht2.grown.size; simp at *; omega)

end Go.Proofs.YtmfdhcnnhlchbaaGreat
