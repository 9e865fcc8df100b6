/- Eye: the watch of the examples, as the statements make it. -/
import Derived.Test.YtcfjakifeihbpaaEai
import Derived.Laws.OwnMore
import Derived.Laws.AppendOwnNone
namespace Go.Proofs.Ytcfjakifeihbpaa
namespace Ey
open Go.RowKit

theorem spanL_any (lo hi : Int) (w : World) : Calls Try.prog 34 #[.int .i64 lo, .int .i64 hi] w (Ret (.agg #[.int .i64 lo, .int .i64 hi]) w) := by
  go_enter Try.func34, Try.ntmps34
  go_wp2
  exact bodyPost_ret (v := .agg #[.int .i64 lo, .int .i64 hi]) (by simp [results, Try.results34, go_sem]) rfl ⟨rfl, (Below.refl _ _).alloc (Nat.le_refl _) _⟩
def exX : List (Int × Int) := [(-2, 2), (0, 5), (1, 1), (-4, 0)]
def exL : List LkV := [(0, 0, 500), (1, 0, 512), (0, 1, 1200), (1, 1, 1213), (2, 1, 1203)]
def exW (S G : Nat) (ln lcap : Nat) (hLo hHi : Int) : Wd := ⟨some ⟨S, 0, none⟩, 4, 4, -3, 3, 2, 3, hLo, hHi, some ⟨G, 0, none⟩, ln, lcap⟩
def exV : List Value := [.int .i64 0, .int .i64 0, .int .i64 500, .int .i64 1, .int .i64 0, .int .i64 512, .int .i64 0, .int .i64 1, .int .i64 1200, .int .i64 1, .int .i64 1, .int .i64 1213, .int .i64 2, .int .i64 1, .int .i64 1203]
/-- The watch of the examples. -/
def SamOut (w : World) (e : Ending) (w' : World) : Prop :=
  ∃ S G, e = .returned (exW S G 5 5 (-20) 20).val ∧ Spans w' (some ⟨S, 0, none⟩) exX ∧ S < G ∧ w'.ownsRow w.heap.size 47 3 (.slice (some ⟨G, 0, none⟩) 5 5) 5 exV ∧ Below w.heap.size w w'
theorem spans_ex {W : World} {B : Nat} (h : ∀ j u, (([-2, 2, 0, 5, 1, 1, -4, 0] : List Int).map (Value.int .i64))[j]? = some u → W.cell? ⟨B, j, none⟩ = some u) : Spans W (some ⟨B, 0, none⟩) exX := by
  refine .inr ⟨B, 0, rfl, World.block_lt_of_cell? W _ (h 0 _ rfl), fun k hk => ?_⟩
  have hk4 : k < 4 := hk
  rcases k with _ | _ | _ | _ | k
  · exact ⟨h 0 _ rfl, h 1 _ rfl⟩
  · exact ⟨h 2 _ rfl, h 3 _ rfl⟩
  · exact ⟨h 4 _ rfl, h 5 _ rfl⟩
  · exact ⟨h 6 _ rfl, h 7 _ rfl⟩
  · omega
theorem slots8 (w : World) (v0 v7 : Value) (a b c d e f : Int) (t : TypeId) : Slots w.heap.size 8 (w.alloc (.cells #[v0, .int .i64 a, .int .i64 b, .int .i64 c, .int .i64 d, .int .i64 e, .int .i64 f, v7] t)) := by
  intro o ho
  have : o = 0 ∨ o = 1 ∨ o = 2 ∨ o = 3 ∨ o = 4 ∨ o = 5 ∨ o = 6 ∨ o = 7 := by omega
  rcases this with rfl | rfl | rfl | rfl | rfl | rfl | rfl | rfl <;> simp [go_sem]
theorem spans_by {B : Nat} {w w' : World} {a : Addr} {xs : List (Int × Int)} (hB : a.block ≠ B) (h : Spans w (some a) xs) (hg : w.grownBy w' (some B)) : Spans w' (some a) xs := by
  rcases h with h | ⟨b, o, h1, h2, h3⟩
  · exact .inl h
  · have hs := hg.size
    injection h1 with h1
    subst h1
    exact .inr ⟨b, o, rfl, by omega, fun k hk => ⟨hg.cell (h3 k hk).1 (by simpa using hB), hg.cell (h3 k hk).2 (by simpa using hB)⟩⟩
/-- Eight cells of one block are written. -/
theorem put8 (w : World) (B : Nat) (h : Wd) (hs : Slots B 8 w) :
    ∃ X, X = ((((((((w.setCell ⟨B, 0, none⟩ (.slice h.a h.n h.cap)).setCell ⟨B, 1, none⟩ (.int .i64 h.eLo)).setCell ⟨B, 2, none⟩ (.int .i64 h.eHi)).setCell ⟨B, 3, none⟩ (.int .i64 h.images)).setCell ⟨B, 4, none⟩ (.int .i64 h.eyes)).setCell ⟨B, 5, none⟩ (.int .i64 h.hLo)).setCell ⟨B, 6, none⟩ (.int .i64 h.hHi)).setCell ⟨B, 7, none⟩ (.slice h.la h.ln h.lcap)) ∧ w.grownBy X (some B) ∧
      X.cell? ⟨B, 0, none⟩ = some (.slice h.a h.n h.cap) ∧ X.cell? ⟨B, 1, none⟩ = some (.int .i64 h.eLo) ∧ X.cell? ⟨B, 2, none⟩ = some (.int .i64 h.eHi) ∧ X.cell? ⟨B, 3, none⟩ = some (.int .i64 h.images) ∧ X.cell? ⟨B, 4, none⟩ = some (.int .i64 h.eyes) ∧ X.cell? ⟨B, 5, none⟩ = some (.int .i64 h.hLo) ∧ X.cell? ⟨B, 6, none⟩ = some (.int .i64 h.hHi) ∧ X.cell? ⟨B, 7, none⟩ = some (.slice h.la h.ln h.lcap) := by
  refine ⟨_, rfl, ?_, ?_⟩
  · have g : ∀ (X : World) (o : Nat) (u : Value), w.grownBy X (some B) → w.grownBy (X.setCell ⟨B, o, none⟩ u) (some B) := fun X o u h => by
      have h2 := grownBy_set X B o u
      exact ⟨h2.os.trans h.os, h2.tape.trans h.tape, h2.output.trans h.output, Nat.le_trans h.size h2.size, fun k hk hn => (h2.block k (Nat.lt_of_lt_of_le hk h.size) hn).trans (h.block k hk hn)⟩
    exact g _ _ _ (g _ _ _ (g _ _ _ (g _ _ _ (g _ _ _ (g _ _ _ (g _ _ _ (g _ _ _ (World.grownBy.refl w _))))))))
  · obtain ⟨u0, p0, f0⟩ := hs.get 0 (by omega)
    obtain ⟨u1, p1, f1⟩ := hs.get 1 (by omega)
    obtain ⟨u2, p2, f2⟩ := hs.get 2 (by omega)
    obtain ⟨u3, p3, f3⟩ := hs.get 3 (by omega)
    obtain ⟨u4, p4, f4⟩ := hs.get 4 (by omega)
    obtain ⟨u5, p5, f5⟩ := hs.get 5 (by omega)
    obtain ⟨u6, p6, f6⟩ := hs.get 6 (by omega)
    obtain ⟨u7, p7, f7⟩ := hs.get 7 (by omega)
    refine ⟨?_, ?_, ?_, ?_, ?_, ?_, ?_, ?_⟩ <;> simp [go_sem, p0, p1, p2, p3, p4, p5, p6, p7]
set_option maxRecDepth 100000 in
set_option maxHeartbeats 4000000 in
theorem sample_any (w : World) : Calls Try.prog 40 #[] w (SamOut w) := by
  go_enter Try.func40, Try.ntmps40
  go_wp2_with fail
  refine (spanL_any _ _ _).mono ?_
  rintro e w1 ⟨rfl, hb1⟩
  go_wp2_with fail
  refine (spanL_any _ _ _).mono ?_
  rintro e w2 ⟨rfl, hb2⟩
  go_wp2_with fail
  refine (spanL_any _ _ _).mono ?_
  rintro e w3 ⟨rfl, hb3⟩
  go_wp2_with fail
  refine (spanL_any _ _ _).mono ?_
  rintro e w4 ⟨rfl, hb4⟩
  go_wp2_with fail
  refine (spanL_any _ _ _).mono ?_
  rintro e w5 ⟨rfl, hb5⟩
  have hZ := newB w (.cells #[.slice none 0 0, .int .i64 0, .int .i64 0, .int .i64 0, .int .i64 0, .int .i64 0, .int .i64 0, .slice none 0 0] 29)
  have hsl0 : Slots w.heap.size 8 (w.alloc (.cells #[.slice none 0 0, .int .i64 0, .int .i64 0, .int .i64 0, .int .i64 0, .int .i64 0, .int .i64 0, .slice none 0 0] 29)) := slots8 w _ _ 0 0 0 0 0 0 _
  have hl0 : w.heap.size < (w.alloc (.cells #[.slice none 0 0, .int .i64 0, .int .i64 0, .int .i64 0, .int .i64 0, .int .i64 0, .int .i64 0, .slice none 0 0] 29)).heap.size := by simp
  have hsl1 := hsl0.below hb1 hl0
  have hl1 : w.heap.size < w1.heap.size := Nat.lt_of_lt_of_le hl0 hb1.size
  have hsl2 := hsl1.below hb2 hl1
  have hl2 : w.heap.size < w2.heap.size := Nat.lt_of_lt_of_le hl1 hb2.size
  have hsl3 := hsl2.below hb3 hl2
  have hl3 : w.heap.size < w3.heap.size := Nat.lt_of_lt_of_le hl2 hb3.size
  have hsl4 := hsl3.below hb4 hl3
  have hl4 : w.heap.size < w4.heap.size := Nat.lt_of_lt_of_le hl3 hb4.size
  have hB4 := BT (BT (BT (BT hZ hb1) hb2) hb3) hb4
  have hSp := newB w4 (.cells #[.int .i64 (-2), .int .i64 2, .int .i64 0, .int .i64 5, .int .i64 1, .int .i64 1, .int .i64 (-4), .int .i64 0] 24)
  have hsp4 : Spans (w4.alloc (.cells #[.int .i64 (-2), .int .i64 2, .int .i64 0, .int .i64 5, .int .i64 1, .int .i64 1, .int .i64 (-4), .int .i64 0] 24)) (some ⟨w4.heap.size, 0, none⟩) exX := by
    refine spans_ex (fun j u hu => ?_)
    have hj : j < 8 := by have := (List.getElem?_eq_some_iff.1 hu).1; simpa using this
    have : j = 0 ∨ j = 1 ∨ j = 2 ∨ j = 3 ∨ j = 4 ∨ j = 5 ∨ j = 6 ∨ j = 7 := by omega
    rcases this with rfl | rfl | rfl | rfl | rfl | rfl | rfl | rfl <;> (simp at hu; subst hu; simp [go_sem])
  have hs4 : w4.heap.size < (w4.alloc (.cells #[.int .i64 (-2), .int .i64 2, .int .i64 0, .int .i64 5, .int .i64 1, .int .i64 1, .int .i64 (-4), .int .i64 0] 24)).heap.size := by simp
  have hsp5 := hsp4.below (Nat.le_refl _) hb5
  have hSpB := BT hSp hb5
  have hsl5 := hsl4.below hSpB hl4
  have hB5 := BT hB4 hSpB
  have hs5 : w4.heap.size < w5.heap.size := Nat.lt_of_lt_of_le hs4 hb5.size
  have hwS : w.heap.size < w4.heap.size := hl4
  clear hZ hsl0 hl0 hsl1 hl1 hsl2 hl2 hsl3 hl3 hsl4 hB4 hSp hsp4 hs4 hSpB hb1 hb2 hb3 hb4 hb5 hl4
  generalize w4.heap.size = S at *
  go_wp2_with fail
  have hT := newB w5 (.cells #[.slice (some ⟨S, 0, none⟩) 4 4, .int .i64 (-3), .int .i64 3] 26)
  have hdr : Below w5.heap.size w5 (w5.alloc (.cells #[.slice (some ⟨S, 0, none⟩) 4 4, .int .i64 (-3), .int .i64 3] 26)).drew := Below.drew hT
  have t0 : (w5.alloc (.cells #[.slice (some ⟨S, 0, none⟩) 4 4, .int .i64 (-3), .int .i64 3] 26)).drew.cell? ⟨w5.heap.size, 0, none⟩ = some (.slice (some ⟨S, 0, none⟩) 4 4) := by simp [go_sem]
  have t1 : (w5.alloc (.cells #[.slice (some ⟨S, 0, none⟩) 4 4, .int .i64 (-3), .int .i64 3] 26)).drew.cell? ⟨w5.heap.size, 1, none⟩ = some (.int .i64 (-3)) := by simp [go_sem]
  have t2 : (w5.alloc (.cells #[.slice (some ⟨S, 0, none⟩) 4 4, .int .i64 (-3), .int .i64 3] 26)).drew.cell? ⟨w5.heap.size, 2, none⟩ = some (.int .i64 3) := by simp [go_sem]
  have hl5 : w.heap.size < w5.heap.size := by omega
  have hsl6 := hsl5.below hdr hl5
  have hsp6 := hsp5.below (Nat.le_refl _) hdr
  have hB6 := BT hB5 hdr
  have hS6 : S < (w5.alloc (.cells #[.slice (some ⟨S, 0, none⟩) 4 4, .int .i64 (-3), .int .i64 3] 26)).drew.heap.size := Nat.lt_of_lt_of_le hs5 hdr.size
  clear hT hsl5 hsp5 hB5 hdr
  generalize w5.heap.size = T at *
  refine wp_region_fork [(0, true), (2, true), (3, true), (4, true), (5, true), (6, true)] [(1, false), (7, false), (8, true), (9, false)] [(7, false), (1, false), (8, true), (9, false)]
    (fun w' => w'.cell? ⟨T, 0, none⟩ = some (.slice (some ⟨S, 0, none⟩) 4 4) ∧ w'.cell? ⟨T, 1, none⟩ = some (.int .i64 (-3)) ∧ w'.cell? ⟨T, 2, none⟩ = some (.int .i64 3)) (by kernel_rfl) (by kernel_rfl) (fun _ _ d _ _ h => by cases d <;> exact h) ⟨t0, t1, t2⟩ ?_
  generalize (w5.alloc (.cells #[.slice (some ⟨S, 0, none⟩) 4 4, .int .i64 (-3), .int .i64 3] 26)).drew = W at *
  repeat (first | (refine seq_read rfl (by rfl) _ (fun w' hS => by (try dsimp only at hS); go_simp; (try with_reducible rfl)) ?_; (try simp only [Act.put, List.setIfInBounds_toArray, List.set_cons_zero, List.set_cons_succ])) | (refine seq_skip rfl (by rfl) ?_; (try simp only [Act.put, List.setIfInBounds_toArray, List.set_cons_zero, List.set_cons_succ])))
  apply seq_end
  intro hSd
  have hwW : w.heap.size ≤ W.heap.size := hB6.size
  constructor
  · refine seq_do rfl (by rfl) (fun K hK => ?_)
    go_simp
    refine (spanL_any _ _ _).mono ?_
    rintro e w6 ⟨rfl, hb6⟩
    refine hK _ _ ⟨cellB t0 hb6, cellB t1 hb6, cellB t2 hb6⟩ ?_
    clear hK K
    (try simp only [Act.put, List.setIfInBounds_toArray, List.set_cons_zero, List.set_cons_succ])
    repeat (first | (refine seq_read rfl (by rfl) _ (fun w' hS => by (try dsimp only at hS); go_simp; (try with_reducible rfl)) ?_; (try simp only [Act.put, List.setIfInBounds_toArray, List.set_cons_zero, List.set_cons_succ])) | (refine seq_skip rfl (by rfl) ?_; (try simp only [Act.put, List.setIfInBounds_toArray, List.set_cons_zero, List.set_cons_succ])))
    refine seq_do rfl (by rfl) (fun K hK => ?_)
    go_simp
    have hN := newB w6 (.cells #[.int .i64 0, .int .i64 0, .int .i64 500, .int .i64 1, .int .i64 0, .int .i64 512, .int .i64 0, .int .i64 1, .int .i64 1200, .int .i64 1, .int .i64 1, .int .i64 1213, .int .i64 2, .int .i64 1, .int .i64 1203] 47)
    have hBn := BT hb6 hN
    have hrow7 := World.ownsRow_lit (base := w.heap.size) (e := 47) (size := 3) w6 #[.int .i64 0, .int .i64 0, .int .i64 500, .int .i64 1, .int .i64 0, .int .i64 512, .int .i64 0, .int .i64 1, .int .i64 1200, .int .i64 1, .int .i64 1, .int .i64 1213, .int .i64 2, .int .i64 1, .int .i64 1203] 5 (by have := hb6.size; omega) (by unfold maxLen; omega) rfl
    have hg6 : W.heap.size ≤ w6.heap.size := hb6.size
    refine hK _ _ ⟨cellB t0 hBn, cellB t1 hBn, cellB t2 hBn⟩ ?_
    clear hK K
    (try simp only [Act.put, List.setIfInBounds_toArray, List.set_cons_zero, List.set_cons_succ])
    have hsl7 := hsl6.below hBn (by omega)
    have hsp7 := hsp6.below (Nat.le_refl _) hBn
    have hB7 := BT hB6 hBn
    have hS7 := Nat.lt_of_lt_of_le hS6 hBn.size
    have hGw : w.heap.size < w6.heap.size := by omega
    have hSG : S < w6.heap.size := by omega
    clear hsl6 hsp6 hB6 hN hBn hb6 t0 t1 t2 hSd
    generalize w6.alloc (.cells #[.int .i64 0, .int .i64 0, .int .i64 500, .int .i64 1, .int .i64 0, .int .i64 512, .int .i64 0, .int .i64 1, .int .i64 1200, .int .i64 1, .int .i64 1, .int .i64 1213, .int .i64 2, .int .i64 1, .int .i64 1203] 47) = w7 at *
    generalize w6.heap.size = G at *
    repeat (first | (refine seq_read rfl (by rfl) _ (fun w' hS => by (try dsimp only at hS); go_simp; (try with_reducible rfl)) ?_; (try simp only [Act.put, List.setIfInBounds_toArray, List.set_cons_zero, List.set_cons_succ])) | (refine seq_skip rfl (by rfl) ?_; (try simp only [Act.put, List.setIfInBounds_toArray, List.set_cons_zero, List.set_cons_succ])))
    refine seq_last rfl (by rfl) (by kernel_rfl) (fun K hK => ?_)
    obtain ⟨v0, u0, f0⟩ := hsl7.get 0 (by omega)
    obtain ⟨v1, u1, f1⟩ := hsl7.get 1 (by omega)
    obtain ⟨v2, u2, f2⟩ := hsl7.get 2 (by omega)
    obtain ⟨v3, u3, f3⟩ := hsl7.get 3 (by omega)
    obtain ⟨v4, u4, f4⟩ := hsl7.get 4 (by omega)
    obtain ⟨v5, u5, f5⟩ := hsl7.get 5 (by omega)
    obtain ⟨v6, u6, f6⟩ := hsl7.get 6 (by omega)
    obtain ⟨v7, u7, f7⟩ := hsl7.get 7 (by omega)
    go_simp
    refine hK _ _ ?_
    clear hK K u0 u1 u2 u3 u4 u5 u6 u7 f0 f1 f2 f3 f4 f5 f6 f7
    obtain ⟨X, hX, hgX, q0, q1, q2, q3, q4, q5, q6, q7⟩ := put8 w7 w.heap.size (exW S G 5 5 (-20) 20) hsl7
    dsimp only [exW] at hX q0 q1 q2 q3 q4 q5 q6 q7
    rw [← hX]
    have hsX := spans_by (by show S ≠ w.heap.size; omega) hsp7 hgX
    have hrX := hrow7.kept hgX (.inr (by simp [Value.ownBlock]; omega))
    have hBX : Below w.heap.size w X := hB7.grown hgX hB7.size (fun k e => by injection e with e; omega)
    have hSX : S < X.heap.size := Nat.lt_of_lt_of_le hS7 hgX.size
    clear hsp7 hrow7 hB7 hsl7 hX hgX
    go_wp2
    exact bodyPost_ret (v := (exW S G 5 5 (-20) 20).val) (by simp [results, Try.results40, go_sem, q0, q1, q2, q3, q4, q5, q6, q7]; rfl) rfl ⟨S, G, rfl, hsX, hSG, hrX, hBX⟩
  · refine seq_do rfl (by rfl) (fun K hK => ?_)
    go_simp
    have hN := newB W (.cells #[.int .i64 0, .int .i64 0, .int .i64 500, .int .i64 1, .int .i64 0, .int .i64 512, .int .i64 0, .int .i64 1, .int .i64 1200, .int .i64 1, .int .i64 1, .int .i64 1213, .int .i64 2, .int .i64 1, .int .i64 1203] 47)
    have hrow6 := World.ownsRow_lit (base := w.heap.size) (e := 47) (size := 3) W #[.int .i64 0, .int .i64 0, .int .i64 500, .int .i64 1, .int .i64 0, .int .i64 512, .int .i64 0, .int .i64 1, .int .i64 1200, .int .i64 1, .int .i64 1, .int .i64 1213, .int .i64 2, .int .i64 1, .int .i64 1203] 5 hwW (by unfold maxLen; omega) rfl
    refine hK _ _ ⟨cellB t0 hN, cellB t1 hN, cellB t2 hN⟩ ?_
    clear hK K
    (try simp only [Act.put, List.setIfInBounds_toArray, List.set_cons_zero, List.set_cons_succ])
    repeat (first | (refine seq_read rfl (by rfl) _ (fun w' hS => by (try dsimp only at hS); go_simp; (try with_reducible rfl)) ?_; (try simp only [Act.put, List.setIfInBounds_toArray, List.set_cons_zero, List.set_cons_succ])) | (refine seq_skip rfl (by rfl) ?_; (try simp only [Act.put, List.setIfInBounds_toArray, List.set_cons_zero, List.set_cons_succ])))
    refine seq_do rfl (by rfl) (fun K hK => ?_)
    go_simp
    refine (spanL_any _ _ _).mono ?_
    rintro e w7 ⟨rfl, hb7⟩
    have hBn := BT hN hb7
    have hrow7 := hrow6.kept (row := none) ⟨hb7.os, hb7.tape, hb7.output, hb7.size, fun i hi _ => hb7.block i hi⟩ (.inr (by simp [Value.ownBlock]))
    refine hK _ _ ⟨cellB t0 hBn, cellB t1 hBn, cellB t2 hBn⟩ ?_
    clear hK K
    (try simp only [Act.put, List.setIfInBounds_toArray, List.set_cons_zero, List.set_cons_succ])
    have hsl7 := hsl6.below hBn (by omega)
    have hsp7 := hsp6.below (Nat.le_refl _) hBn
    have hB7 := BT hB6 hBn
    have hS7 := Nat.lt_of_lt_of_le hS6 hBn.size
    have hGw : w.heap.size < W.heap.size := by omega
    have hSG : S < W.heap.size := hS6
    clear hsl6 hsp6 hB6 hN hBn hb7 t0 t1 t2 hSd hrow6
    generalize W.heap.size = G at *
    repeat (first | (refine seq_read rfl (by rfl) _ (fun w' hS => by (try dsimp only at hS); go_simp; (try with_reducible rfl)) ?_; (try simp only [Act.put, List.setIfInBounds_toArray, List.set_cons_zero, List.set_cons_succ])) | (refine seq_skip rfl (by rfl) ?_; (try simp only [Act.put, List.setIfInBounds_toArray, List.set_cons_zero, List.set_cons_succ])))
    refine seq_last rfl (by rfl) (by kernel_rfl) (fun K hK => ?_)
    obtain ⟨v0, u0, f0⟩ := hsl7.get 0 (by omega)
    obtain ⟨v1, u1, f1⟩ := hsl7.get 1 (by omega)
    obtain ⟨v2, u2, f2⟩ := hsl7.get 2 (by omega)
    obtain ⟨v3, u3, f3⟩ := hsl7.get 3 (by omega)
    obtain ⟨v4, u4, f4⟩ := hsl7.get 4 (by omega)
    obtain ⟨v5, u5, f5⟩ := hsl7.get 5 (by omega)
    obtain ⟨v6, u6, f6⟩ := hsl7.get 6 (by omega)
    obtain ⟨v7, u7, f7⟩ := hsl7.get 7 (by omega)
    go_simp
    refine hK _ _ ?_
    clear hK K u0 u1 u2 u3 u4 u5 u6 u7 f0 f1 f2 f3 f4 f5 f6 f7
    obtain ⟨X, hX, hgX, q0, q1, q2, q3, q4, q5, q6, q7⟩ := put8 w7 w.heap.size (exW S G 5 5 (-20) 20) hsl7
    dsimp only [exW] at hX q0 q1 q2 q3 q4 q5 q6 q7
    rw [← hX]
    have hsX := spans_by (by show S ≠ w.heap.size; omega) hsp7 hgX
    have hrX := hrow7.kept hgX (.inr (by simp [Value.ownBlock]; omega))
    have hBX : Below w.heap.size w X := hB7.grown hgX hB7.size (fun k e => by injection e with e; omega)
    have hSX : S < X.heap.size := Nat.lt_of_lt_of_le hS7 hgX.size
    clear hsp7 hrow7 hB7 hsl7 hX hgX
    go_wp2
    exact bodyPost_ret (v := (exW S G 5 5 (-20) 20).val) (by simp [results, Try.results40, go_sem, q0, q1, q2, q3, q4, q5, q6, q7]; rfl) rfl ⟨S, G, rfl, hsX, hSG, hrX, hBX⟩
end Ey
end Go.Proofs.Ytcfjakifeihbpaa
