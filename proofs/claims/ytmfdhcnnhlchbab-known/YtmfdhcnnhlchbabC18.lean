import Derived.Test.YtmfdhcnnhlchbabC17
import Derived.Deep.Cut
namespace Go.Proofs.Ytmfdhcnnhlchbab
open Go.RowKit Go.Maps

def dosB : List Dos := [
  ⟨2, 2, 0, pk0, 0, 1⟩,
  ⟨(-1), 2, 0, pk0, 0, 1⟩,
  ⟨0, 0, 0, pk0, 0, 16⟩,
  ⟨0, 10, 0, pk0, 0, 16⟩,
  ⟨0, 1, 0, ⟨0, 3, 0, 0, 1, 1, 0⟩, 0, 3⟩,
  ⟨0, 1, 0, ⟨0, (-1), 0, 9, 0, 0, 0⟩, 0, 3⟩,
  ⟨0, 1, 0, ⟨0, 0, 0, 2, 0, 0, 0⟩, 0, 4⟩,
  ⟨0, 1, 0, ⟨0, 0, 0, 0, 0, 0, 0⟩, 0, 5⟩,
  ⟨0, 1, 0, ⟨0, 0, 0, 0, 101, 0, 0⟩, 0, 6⟩,
  ⟨0, 1, 0, ⟨0, 0, 0, 1, 1, 0, 0⟩, 0, 6⟩,
  ⟨0, 1, 0, ⟨0, 0, 0, 0, 1, 0, 0⟩, 0, 7⟩,
  ⟨0, 1, 0, ⟨0, 0, 1, 0, 60, 3, 0⟩, 1, 0⟩,
  ⟨0, 1, 0, ⟨0, 0, 7, 0, 40, 0, 50⟩, 2, 0⟩,
  ⟨0, 1, 0, ⟨0, 0, 1, 0, 1, 3, 0⟩, 0, 6⟩,
  ⟨0, 1, 0, ⟨0, 1, 2, 0, 5, 2, 99⟩, 3, 0⟩,
  ⟨0, 1, 0, ⟨0, 1, 2, 0, 5, 9, 99⟩, 4, 0⟩,
  ⟨1, 4, 1, pk0, 0, 10⟩,
  ⟨1, 3, 1, pk0, 0, 8⟩,
  ⟨1, 3, 0, pk0, 0, 8⟩,
  ⟨0, 2, 5, pk0, 0, 0⟩,
  ⟨1, 4, 1, pk0, 0, 10⟩,
  ⟨1, 3, 1, pk0, 0, 0⟩,
  ⟨1, 3, 1, pk0, 0, 8⟩,
  ⟨1, 4, 2, pk0, 0, 9⟩,
  ⟨1, 4, 1, pk0, 0, 0⟩,
  ⟨1, 4, 1, pk0, 0, 9⟩,
  ⟨1, 4, 2, pk0, 0, 0⟩,
  ⟨0, 5, 1, pk0, 0, 12⟩,
  ⟨0, 5, 2, pk0, 0, 9⟩,
  ⟨0, 5, 5, pk0, 0, 10⟩,
  ⟨0, 6, 1, pk0, 0, 13⟩,
  ⟨0, 7, 1, pk0, 0, 14⟩,
  ⟨0, 6, 9, pk0, 0, 10⟩,
  ⟨0, 9, 0, pk0, 0, 14⟩,
  ⟨1, 2, 18446744073709551615, pk0, 0, 0⟩,
  ⟨1, 2, 1, pk0, 0, 15⟩,
  ⟨1, 2, 0, pk0, 0, 0⟩,
  ⟨1, 4, 3, pk0, 0, 11⟩,
  ⟨0, 3, 2, pk0, 0, 0⟩,
  ⟨0, 5, 1, pk0, 0, 0⟩,
  ⟨0, 5, 1, pk0, 0, 10⟩,
  ⟨0, 6, 2, pk0, 0, 13⟩,
  ⟨0, 5, 2, pk0, 0, 0⟩,
  ⟨0, 5, 3, pk0, 0, 12⟩,
  ⟨1, 1, 0, ⟨0, 1, 0, 0, 20, 1, 0⟩, 1, 0⟩,
  ⟨1, 2, 0, pk0, 0, 0⟩,
  ⟨0, 3, 3, pk0, 0, 0⟩,
  ⟨0, 4, 1, pk0, 0, 11⟩,
  ⟨0, 6, 4, pk0, 0, 0⟩,
  ⟨0, 1, 0, ⟨0, 0, 0, 0, 1, 9, 0⟩, 0, 2⟩,
  ⟨0, 4, 1, pk0, 0, 2⟩,
  ⟨0, 8, 0, pk0, 0, 2⟩,
  ⟨0, 9, 0, pk0, 0, 2⟩,
  ⟨0, 6, 3, pk0, 0, 0⟩,
  ⟨0, 2, 0, pk0, 0, 0⟩,
  ⟨1, 7, 1, pk0, 0, 14⟩,
  ⟨1, 3, 2, pk0, 0, 0⟩,
  ⟨1, 6, 1, pk0, 0, 0⟩,
  ⟨1, 9, 0, pk0, 0, 2⟩]

abbrev endB : Mod := runD (newMod 100) (dosB.take 59)
set_option maxRecDepth 100000 in
theorem dosB_ok : okD (newMod 100) dosB = true := by kernel_rfl
theorem endB_p0 : endB.c0.hd.packets = [] := by kernel_rfl
theorem endB_p1 : endB.c1.hd.packets = [] := by kernel_rfl
theorem endB_l : endB.c0.locked = 60 := by kernel_rfl
theorem endB_a : endB.c1.about = 60 := by kernel_rfl
theorem endB_o0 : endB.c0.hd.isOpen = false := by kernel_rfl
theorem endB_o1 : endB.c1.hd.isOpen = false := by kernel_rfl
theorem endB_ns : endB.c0.nextSend = 5 := by kernel_rfl
theorem endB_nr : endB.c1.hd.nextRecv = 3 := by kernel_rfl
theorem endB_len : endB.c0.heads.length = 3 := by kernel_rfl
set_option maxRecDepth 100000 in
theorem endB_h1 : ∃ K, endB.c0.heads[1]? = some K ∧ headAgg K = .agg #[.int .u64 1, .int .u64 5, .bool true, .int .u64 1, .int .i64 4, .int .i64 0] := ⟨_, rfl, by kernel_rfl⟩
theorem endB_s1 : sameM endB 0 0 1 0 = true := by kernel_rfl
theorem endB_s2 : sameM endB 0 1 1 1 = false := by kernel_rfl
theorem endB_s3 : sameM endB 0 1 0 1 = true := by kernel_rfl
theorem endB_s4 : sameM endB 0 9 0 9 = false := by kernel_rfl
theorem endB_s5 : sameM endB 2 0 2 0 = false := by kernel_rfl
theorem endB_z1 : balM endB 0 3 0 = 0 := by kernel_rfl
theorem endB_z2 : balM endB 0 (-1) 0 = 0 := by kernel_rfl
theorem endB_z3 : balM endB 0 0 7 = 0 := by kernel_rfl
theorem endB_b000 : balM endB 0 0 0 = 40 := by kernel_rfl
theorem endB_b001 : balM endB 0 0 1 = 0 := by kernel_rfl
theorem endB_b010 : balM endB 0 1 0 = 100 := by kernel_rfl
theorem endB_b011 : balM endB 0 1 1 = 0 := by kernel_rfl
theorem endB_b020 : balM endB 0 2 0 = 100 := by kernel_rfl
theorem endB_b021 : balM endB 0 2 1 = 0 := by kernel_rfl
theorem endB_b100 : balM endB 1 0 0 = 0 := by kernel_rfl
theorem endB_b101 : balM endB 1 0 1 = 100 := by kernel_rfl
theorem endB_b110 : balM endB 1 1 0 = 60 := by kernel_rfl
theorem endB_b111 : balM endB 1 1 1 = 100 := by kernel_rfl
theorem endB_b120 : balM endB 1 2 0 = 0 := by kernel_rfl
theorem endB_b121 : balM endB 1 2 1 = 100 := by kernel_rfl

def seqR : Code → Code
  | .seq _ b => b
  | c => c
def kBody (f : Func) : Code := f.body.getD .ret
def rest14 (f : Func) : Code := seqR (seqR (seqR (seqR (seqR (kBody f)))))
def rest29 (f : Func) : Code := seqR (seqR (rest14 f))
def seqL : Code → Code
  | .seq a _ => a
  | c => c
def head14 (f : Func) : Code := seqL (rest14 f)
def block0 (f : Func) : Code := seqR (seqL (seqR (seqR (seqR (seqR (kBody f))))))
def rest15 (f : Func) : Code := seqR (rest14 f)
def head29 (f : Func) : Code := seqL (rest29 f)
def rest30 (f : Func) : Code := seqR (rest29 f)

end Go.Proofs.Ytmfdhcnnhlchbab
