/- Eye: the watch of the examples, as the statements make it. -/
import Derived.Test.YtcfjakifeihbpaaGreatEai
import Derived.Laws.OwnMore
import Derived.Laws.AppendOwnNone
namespace Go.Proofs.YtcfjakifeihbpaaGreat
namespace Ey
open Go.RowKit

def exX : List (Int × Int) := [(-2, 2), (0, 5), (1, 1), (-4, 0)]
def exL : List LkV := [(0, 0, 500), (1, 0, 512), (0, 1, 1200), (1, 1, 1213), (2, 1, 1203)]
def exW (S G : Nat) (ln lcap : Nat) (hLo hHi : Int) : Wd := ⟨some ⟨S, 0, none⟩, 4, 4, -3, 3, 2, 3, hLo, hHi, some ⟨G, 0, none⟩, ln, lcap⟩
def exV : List Value := [.int .i64 0, .int .i64 0, .int .i64 500, .int .i64 1, .int .i64 0, .int .i64 512, .int .i64 0, .int .i64 1, .int .i64 1200, .int .i64 1, .int .i64 1, .int .i64 1213, .int .i64 2, .int .i64 1, .int .i64 1203]
/-- The watch of the examples. -/
def SamOut (w : World) (e : Ending) (w' : World) : Prop :=
  ∃ S G, e = .returned (exW S G 5 5 (-20) 20).val ∧ Spans w' (some ⟨S, 0, none⟩) exX ∧ S < G ∧ w'.ownsRow w.heap.size 36 3 (.slice (some ⟨G, 0, none⟩) 5 5) 5 exV ∧ Below w.heap.size w w'
theorem spans_ex {W : World} {B : Nat} (h : ∀ j u, (([-2, 2, 0, 5, 1, 1, -4, 0] : List Int).map (Value.int .i64))[j]? = some u → W.cell? ⟨B, j, none⟩ = some u) : Spans W (some ⟨B, 0, none⟩) exX := by
  refine .inr ⟨B, 0, rfl, World.block_lt_of_cell? W _ (h 0 _ rfl), fun k hk => ?_⟩
  have hk4 : k < 4 := hk
  rcases k with _ | _ | _ | _ | k
  · exact ⟨h 0 _ rfl, h 1 _ rfl⟩
  · exact ⟨h 2 _ rfl, h 3 _ rfl⟩
  · exact ⟨h 4 _ rfl, h 5 _ rfl⟩
  · exact ⟨h 6 _ rfl, h 7 _ rfl⟩
  · omega
theorem slots8 (w : World) (v0 v7 : Value) (a b c d e f : Int) (t : TypeId) : Slots w.heap.size 8 (w.alloc (.cells #[v0, .int .i64 a, .int .i64 b, .int .i64 c, .int .i64 d, .int .i64 e, .int .i64 f, v7] t)) := by
  intro o ho
  have : o = 0 ∨ o = 1 ∨ o = 2 ∨ o = 3 ∨ o = 4 ∨ o = 5 ∨ o = 6 ∨ o = 7 := by omega
  rcases this with rfl | rfl | rfl | rfl | rfl | rfl | rfl | rfl <;> simp [go_sem]
theorem spans_by {B : Nat} {w w' : World} {a : Addr} {xs : List (Int × Int)} (hB : a.block ≠ B) (h : Spans w (some a) xs) (hg : w.grownBy w' (some B)) : Spans w' (some a) xs := by
  rcases h with h | ⟨b, o, h1, h2, h3⟩
  · exact .inl h
  · have hs := hg.size
    injection h1 with h1
    subst h1
    exact .inr ⟨b, o, rfl, by omega, fun k hk => ⟨hg.cell (h3 k hk).1 (by simpa using hB), hg.cell (h3 k hk).2 (by simpa using hB)⟩⟩
/-- Eight cells of one block are written. -/
theorem put8 (w : World) (B : Nat) (h : Wd) (hs : Slots B 8 w) :
    ∃ X, X = ((((((((w.setCell ⟨B, 0, none⟩ (.slice h.a h.n h.cap)).setCell ⟨B, 1, none⟩ (.int .i64 h.eLo)).setCell ⟨B, 2, none⟩ (.int .i64 h.eHi)).setCell ⟨B, 3, none⟩ (.int .i64 h.images)).setCell ⟨B, 4, none⟩ (.int .i64 h.eyes)).setCell ⟨B, 5, none⟩ (.int .i64 h.hLo)).setCell ⟨B, 6, none⟩ (.int .i64 h.hHi)).setCell ⟨B, 7, none⟩ (.slice h.la h.ln h.lcap)) ∧ w.grownBy X (some B) ∧
      X.cell? ⟨B, 0, none⟩ = some (.slice h.a h.n h.cap) ∧ X.cell? ⟨B, 1, none⟩ = some (.int .i64 h.eLo) ∧ X.cell? ⟨B, 2, none⟩ = some (.int .i64 h.eHi) ∧ X.cell? ⟨B, 3, none⟩ = some (.int .i64 h.images) ∧ X.cell? ⟨B, 4, none⟩ = some (.int .i64 h.eyes) ∧ X.cell? ⟨B, 5, none⟩ = some (.int .i64 h.hLo) ∧ X.cell? ⟨B, 6, none⟩ = some (.int .i64 h.hHi) ∧ X.cell? ⟨B, 7, none⟩ = some (.slice h.la h.ln h.lcap) := by
  refine ⟨_, rfl, ?_, ?_⟩
  · have g : ∀ (X : World) (o : Nat) (u : Value), w.grownBy X (some B) → w.grownBy (X.setCell ⟨B, o, none⟩ u) (some B) := fun X o u h => by
      have h2 := grownBy_set X B o u
      exact ⟨h2.os.trans h.os, h2.tape.trans h.tape, h2.output.trans h.output, Nat.le_trans h.size h2.size, fun k hk hn => (h2.block k (Nat.lt_of_lt_of_le hk h.size) hn).trans (h.block k hk hn)⟩
    exact g _ _ _ (g _ _ _ (g _ _ _ (g _ _ _ (g _ _ _ (g _ _ _ (g _ _ _ (g _ _ _ (World.grownBy.refl w _))))))))
  · obtain ⟨u0, p0, f0⟩ := hs.get 0 (by omega)
    obtain ⟨u1, p1, f1⟩ := hs.get 1 (by omega)
    obtain ⟨u2, p2, f2⟩ := hs.get 2 (by omega)
    obtain ⟨u3, p3, f3⟩ := hs.get 3 (by omega)
    obtain ⟨u4, p4, f4⟩ := hs.get 4 (by omega)
    obtain ⟨u5, p5, f5⟩ := hs.get 5 (by omega)
    obtain ⟨u6, p6, f6⟩ := hs.get 6 (by omega)
    obtain ⟨u7, p7, f7⟩ := hs.get 7 (by omega)
    refine ⟨?_, ?_, ?_, ?_, ?_, ?_, ?_, ?_⟩ <;> simp [go_sem, p0, p1, p2, p3, p4, p5, p6, p7]
end Ey
end Go.Proofs.YtcfjakifeihbpaaGreat
