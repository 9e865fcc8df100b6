/- Plate: a plate as it lies in memory. -/
import Derived.Test.YtdkegkacpdkjgaaGreatPin
namespace Go.Proofs.YtdkegkacpdkjgaaGreat
open Go.RowKit

/-- A star: its spans on the plate; whether it is known; its spans in the sky. -/
structure St where
  x0 : Int
  x1 : Int
  y0 : Int
  y1 : Int
  k : Bool
  e0 : Int
  e1 : Int
  n0 : Int
  n1 : Int
deriving Inhabited
def St.cells (s : St) : Array Value := #[.int .i64 s.x0, .int .i64 s.x1, .int .i64 s.y0, .int .i64 s.y1, .bool s.k, .int .i64 s.e0, .int .i64 s.e1, .int .i64 s.n0, .int .i64 s.n1]
/-- A star lies at a place. -/
structure StAt (s : St) (b o : Nat) (w : World) : Prop where
  c0 : w.cell? ⟨b, o, none⟩ = some (.int .i64 s.x0)
  c1 : w.cell? ⟨b, o + 1, none⟩ = some (.int .i64 s.x1)
  c2 : w.cell? ⟨b, o + 2, none⟩ = some (.int .i64 s.y0)
  c3 : w.cell? ⟨b, o + 3, none⟩ = some (.int .i64 s.y1)
  c4 : w.cell? ⟨b, o + 4, none⟩ = some (.bool s.k)
  c5 : w.cell? ⟨b, o + 5, none⟩ = some (.int .i64 s.e0)
  c6 : w.cell? ⟨b, o + 6, none⟩ = some (.int .i64 s.e1)
  c7 : w.cell? ⟨b, o + 7, none⟩ = some (.int .i64 s.n0)
  c8 : w.cell? ⟨b, o + 8, none⟩ = some (.int .i64 s.n1)
theorem StAt.lt {s : St} {b o : Nat} {w : World} (h : StAt s b o w) : b < w.heap.size := World.block_lt_of_cell? _ _ h.c0
theorem StAt.below {s : St} {b o M : Nat} {w w' : World} (h : StAt s b o w) (hB : Below M w w') (hb : b < M) : StAt s b o w' where
  c0 := (hB.cell (p := ⟨b, o, none⟩) hb).trans h.c0
  c1 := (hB.cell (p := ⟨b, o + 1, none⟩) hb).trans h.c1
  c2 := (hB.cell (p := ⟨b, o + 2, none⟩) hb).trans h.c2
  c3 := (hB.cell (p := ⟨b, o + 3, none⟩) hb).trans h.c3
  c4 := (hB.cell (p := ⟨b, o + 4, none⟩) hb).trans h.c4
  c5 := (hB.cell (p := ⟨b, o + 5, none⟩) hb).trans h.c5
  c6 := (hB.cell (p := ⟨b, o + 6, none⟩) hb).trans h.c6
  c7 := (hB.cell (p := ⟨b, o + 7, none⟩) hb).trans h.c7
  c8 := (hB.cell (p := ⟨b, o + 8, none⟩) hb).trans h.c8
theorem StAt.new (s : St) (T : TypeId) (w : World) : StAt s w.heap.size 0 (w.alloc (.cells s.cells T)) where
  c0 := by rw [World.cell?_alloc_new]; rfl
  c1 := by rw [World.cell?_alloc_new]; rfl
  c2 := by rw [World.cell?_alloc_new]; rfl
  c3 := by rw [World.cell?_alloc_new]; rfl
  c4 := by rw [World.cell?_alloc_new]; rfl
  c5 := by rw [World.cell?_alloc_new]; rfl
  c6 := by rw [World.cell?_alloc_new]; rfl
  c7 := by rw [World.cell?_alloc_new]; rfl
  c8 := by rw [World.cell?_alloc_new]; rfl

/-- A plate as a value. -/
structure Pl where
  lo : Int
  hi : Int
  a : Option Addr
  n : Nat
  cap : Nat
def Pl.val (p : Pl) : Value := .agg #[.int .i64 p.lo, .int .i64 p.hi, .slice p.a p.n p.cap]
/-- Its stars lie in memory. -/
structure PlAt (p : Pl) (ss : List St) (w : World) : Prop where
  nl : ss.length = p.n
  big : p.n ≤ 1000000000
  lk : ss = [] ∨ ∃ b o, p.a = some ⟨b, o, none⟩ ∧ b < w.heap.size ∧ ∀ i, i < ss.length → StAt (ss.getD i default) b (o + i * 9) w
theorem PlAt.below {p : Pl} {ss : List St} {M : Nat} {w w' : World} (h : PlAt p ss w) (hB : Below M w w') (hM : w.heap.size ≤ M) : PlAt p ss w' where
  nl := h.nl
  big := h.big
  lk := h.lk.elim Or.inl fun ⟨b, o, ha, hb, hc⟩ => Or.inr ⟨b, o, ha, Nat.lt_of_lt_of_le hb hB.size, fun i hi => (hc i hi).below hB (Nat.lt_of_lt_of_le hb hM)⟩

/-- Which plates are valid. -/
def stB (s : St) : Bool := (sideB s.x0 s.x1 && sideB s.y0 s.y1) && (!s.k || (skyB s.e0 s.e1 && skyB s.n0 s.n1))
def plB (p : Pl) (ss : List St) : Bool := ((decide (1 ≤ p.lo) && decide (p.lo ≤ p.hi) && decide (p.hi ≤ 1000)) && decide (p.n ≤ 10)) && ss.all stB
end Go.Proofs.YtdkegkacpdkjgaaGreat
