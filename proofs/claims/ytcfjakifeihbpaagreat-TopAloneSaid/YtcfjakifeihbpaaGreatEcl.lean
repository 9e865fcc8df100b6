/- Eye: what a set is asked. -/
import Derived.Test.YtcfjakifeihbpaaGreatEff
namespace Go.Proofs.YtcfjakifeihbpaaGreat
namespace Ey
open Go.RowKit

/-- The box of a watch that is looked at. -/
structure BoxL (w0 w : World) (B L E : Nat) (h : Wd) (tv : Value) (ts : List (Int × Int)) (ls : List LkV) : Prop where
  box : w.cell? ⟨B, 0, none⟩ = some (.pointer (some ⟨L, 0, none⟩))
  look : IsW w0 w L h tv ts
  lk : LooksIn w h.la ls
  ok : WOk h ts ls E
theorem BoxL.grown {w0 w w' : World} {B L E : Nat} {h : Wd} {tv : Value} {ts : List (Int × Int)} {ls : List LkV} (k : BoxL w0 w B L E h tv ts ls) (hb : Below w.heap.size w w') : BoxL w0 w' B L E h tv ts ls :=
  ⟨cellB k.box hb, k.look.grown hb, k.lk.below hb, k.ok⟩
section
variable {w0 w : World} {B L E : Nat} {h : Wd} {tv : Value} {ts : List (Int × Int)} {ls : List LkV}
theorem BoxL.eyes (k : BoxL w0 w B L E h tv ts ls) : Calls Tryz.prog 23 #[.pointer (some ⟨L, 0, none⟩)] w (Ret (.int .i64 (allS E)) w) :=
  eyes_any L E h w k.look.box k.ok.eE (by have := k.ok.e4; omega)
theorem BoxL.looks (k : BoxL w0 w B L E h tv ts ls) : Calls Tryz.prog 22 #[.pointer (some ⟨L, 0, none⟩)] w (Ret (.int .i64 (allS ls.length)) w) := by
  have := looks_any L h w k.look.box (by rw [← k.ok.nl]; exact k.ok.l12)
  rw [← k.ok.nl] at this
  exact this
end
/-- Whether the looks of a set can be right if the measurers of a set can have habits. -/
def canW (h : Wd) (ts : List (Int × Int)) (ls : List LkV) (E : Nat) (S H : Int) : Bool := (ovB h ts ls E S H 0).isSome
theorem BoxL.can {w0 w : World} {B L E : Nat} {h : Wd} {tv : Value} {ts : List (Int × Int)} {ls : List LkV} (k : BoxL w0 w B L E h tv ts ls) (S H : Int) : Calls Tryz.prog 21 #[.pointer (some ⟨L, 0, none⟩), .int .i64 S, .int .i64 H] w (Ret (.bool (canW h ts ls E S H)) w) :=
  can_any w0 L E h tv ts ls S H k.ok w k.look k.lk
/-- All looks but those of a set. -/
def butS (n : Nat) (x : Int) : Int := bits .andNot .i64 (allS n) x
set_option maxRecDepth 100000 in
set_option maxHeartbeats 2000000 in
theorem clash1_any (w0 : World) (B L E : Nat) (h : Wd) (tv : Value) (ts : List (Int × Int)) (ls : List LkV) (x : Int) (w : World) (k : BoxL w0 w B L E h tv ts ls) :
    Calls Tryz.prog 26 #[.int .i64 x, .pointer (some ⟨B, 0, none⟩)] w (Ret (.bool (!canW h ts ls E x (allS E))) w) := by
  have he : Hid (∀ Y, Below w.heap.size w Y → Calls Tryz.prog 23 #[.pointer (some ⟨L, 0, none⟩)] Y (Ret (.int .i64 (allS E)) Y)) := fun Y hY => (k.grown hY).eyes
  have hl : Hid (∀ Y, Below w.heap.size w Y → Calls Tryz.prog 22 #[.pointer (some ⟨L, 0, none⟩)] Y (Ret (.int .i64 (allS ls.length)) Y)) := fun Y hY => (k.grown hY).looks
  have hc : Hid (∀ S H Y, Below w.heap.size w Y → Calls Tryz.prog 21 #[.pointer (some ⟨L, 0, none⟩), .int .i64 S, .int .i64 H] Y (Ret (.bool (canW h ts ls E S H)) Y)) := fun S H Y hY => (k.grown hY).can S H
  have hbx := k.box
  clear k
  have hdr : Below w.heap.size w w.drew := Below.drew (Below.refl _ _)
  have hbd : w.drew.cell? ⟨B, 0, none⟩ = some (.pointer (some ⟨L, 0, none⟩)) := hbx
  generalize allS ls.length = sl at *
  generalize allS E = se at *
  go_enter Tryz.func26, Tryz.ntmps26
  go_wp2_with fail
  refine wp_region_seq [(0, true), (1, true), (2, true), (3, false), (4, false), (5, true), (6, true)]
    (fun w' => w'.cell? ⟨B, 0, none⟩ = some (.pointer (some ⟨L, 0, none⟩))) (by kernel_rfl) (by kernel_rfl) (fun _ _ d _ _ h => by cases d <;> exact h) hbd ?_
  repeat (first | (refine seq_read rfl (by rfl) _ (fun w' hS => by (try dsimp only at hS); go_simp; (try with_reducible rfl)) ?_; (try simp only [Act.put, List.setIfInBounds_toArray, List.set_cons_zero, List.set_cons_succ])) | (refine seq_skip rfl (by rfl) ?_; (try simp only [Act.put, List.setIfInBounds_toArray, List.set_cons_zero, List.set_cons_succ])))
  skip
  refine seq_do rfl (by rfl) (fun K hK => ?_)
  go_simp
  refine (he.out _ hdr).mono ?_
  rintro e w1 ⟨rfl, hb1⟩
  have hbd := cellB hbd hb1
  have hdr := BT hdr hb1
  refine hK _ _ hbd ?_
  clear hK K
  (try simp only [Act.put, List.setIfInBounds_toArray, List.set_cons_zero, List.set_cons_succ])
  repeat (first | (refine seq_read rfl (by rfl) _ (fun w' hS => by (try dsimp only at hS); go_simp; (try with_reducible rfl)) ?_; (try simp only [Act.put, List.setIfInBounds_toArray, List.set_cons_zero, List.set_cons_succ])) | (refine seq_skip rfl (by rfl) ?_; (try simp only [Act.put, List.setIfInBounds_toArray, List.set_cons_zero, List.set_cons_succ])))
  skip
  refine seq_do rfl (by rfl) (fun K hK => ?_)
  go_simp
  refine (hc.out x se _ hdr).mono ?_
  rintro e w2 ⟨rfl, hb2⟩
  have hbd := cellB hbd hb2
  have hdr := BT hdr hb2
  refine hK _ _ hbd ?_
  clear hK K
  (try simp only [Act.put, List.setIfInBounds_toArray, List.set_cons_zero, List.set_cons_succ])
  repeat (first | (refine seq_read rfl (by rfl) _ (fun w' hS => by (try dsimp only at hS); go_simp; (try with_reducible rfl)) ?_; (try simp only [Act.put, List.setIfInBounds_toArray, List.set_cons_zero, List.set_cons_succ])) | (refine seq_skip rfl (by rfl) ?_; (try simp only [Act.put, List.setIfInBounds_toArray, List.set_cons_zero, List.set_cons_succ])))
  refine seq_end ?_
  go_wp2
  go_ret
  exact ⟨rfl, hdr⟩
set_option maxRecDepth 100000 in
set_option maxHeartbeats 2000000 in
theorem drop1_any (w0 : World) (B L E : Nat) (h : Wd) (tv : Value) (ts : List (Int × Int)) (ls : List LkV) (x : Int) (w : World) (k : BoxL w0 w B L E h tv ts ls) :
    Calls Tryz.prog 35 #[.int .i64 x, .pointer (some ⟨B, 0, none⟩)] w (Ret (.bool (canW h ts ls E (butS ls.length x) (allS E))) w) := by
  have he : Hid (∀ Y, Below w.heap.size w Y → Calls Tryz.prog 23 #[.pointer (some ⟨L, 0, none⟩)] Y (Ret (.int .i64 (allS E)) Y)) := fun Y hY => (k.grown hY).eyes
  have hl : Hid (∀ Y, Below w.heap.size w Y → Calls Tryz.prog 22 #[.pointer (some ⟨L, 0, none⟩)] Y (Ret (.int .i64 (allS ls.length)) Y)) := fun Y hY => (k.grown hY).looks
  have hc : Hid (∀ S H Y, Below w.heap.size w Y → Calls Tryz.prog 21 #[.pointer (some ⟨L, 0, none⟩), .int .i64 S, .int .i64 H] Y (Ret (.bool (canW h ts ls E S H)) Y)) := fun S H Y hY => (k.grown hY).can S H
  have hbx := k.box
  clear k
  have hdr : Below w.heap.size w w.drew := Below.drew (Below.refl _ _)
  have hbd : w.drew.cell? ⟨B, 0, none⟩ = some (.pointer (some ⟨L, 0, none⟩)) := hbx
  have hu : Hid (butS ls.length x = bits .andNot .i64 (allS ls.length) x) := rfl
  generalize butS ls.length x = u at *
  generalize allS ls.length = sl at *
  generalize allS E = se at *
  go_enter Tryz.func35, Tryz.ntmps35
  go_wp2_with fail
  refine wp_region_seq [(0, true), (1, true), (3, true), (5, true), (2, false), (4, true), (6, false), (7, false), (8, true)]
    (fun w' => w'.cell? ⟨B, 0, none⟩ = some (.pointer (some ⟨L, 0, none⟩))) (by kernel_rfl) (by kernel_rfl) (fun _ _ d _ _ h => by cases d <;> exact h) hbd ?_
  repeat (first | (refine seq_read rfl (by rfl) _ (fun w' hS => by (try dsimp only at hS); go_simp; (try with_reducible rfl)) ?_; (try simp only [Act.put, List.setIfInBounds_toArray, List.set_cons_zero, List.set_cons_succ])) | (refine seq_skip rfl (by rfl) ?_; (try simp only [Act.put, List.setIfInBounds_toArray, List.set_cons_zero, List.set_cons_succ])))
  skip
  refine seq_do rfl (by rfl) (fun K hK => ?_)
  go_simp
  refine (hl.out _ hdr).mono ?_
  rintro e w1 ⟨rfl, hb1⟩
  have hbd := cellB hbd hb1
  have hdr := BT hdr hb1
  refine hK _ _ hbd ?_
  clear hK K
  (try simp only [Act.put, List.setIfInBounds_toArray, List.set_cons_zero, List.set_cons_succ])
  repeat (first | (refine seq_read rfl (by rfl) _ (fun w' hS => by (try dsimp only at hS); go_simp; (try with_reducible rfl)) ?_; (try simp only [Act.put, List.setIfInBounds_toArray, List.set_cons_zero, List.set_cons_succ])) | (refine seq_skip rfl (by rfl) ?_; (try simp only [Act.put, List.setIfInBounds_toArray, List.set_cons_zero, List.set_cons_succ])))
  skip
  refine seq_do rfl (by rfl) (fun K hK => ?_)
  go_simp
  refine (he.out _ hdr).mono ?_
  rintro e w2 ⟨rfl, hb2⟩
  have hbd := cellB hbd hb2
  have hdr := BT hdr hb2
  refine hK _ _ hbd ?_
  clear hK K
  (try simp only [Act.put, List.setIfInBounds_toArray, List.set_cons_zero, List.set_cons_succ])
  repeat (first | (refine seq_read rfl (by rfl) _ (fun w' hS => by (try dsimp only at hS); go_simp; (try with_reducible rfl)) ?_; (try simp only [Act.put, List.setIfInBounds_toArray, List.set_cons_zero, List.set_cons_succ])) | (refine seq_skip rfl (by rfl) ?_; (try simp only [Act.put, List.setIfInBounds_toArray, List.set_cons_zero, List.set_cons_succ])))
  rw [← hu.out]
  refine seq_do rfl (by rfl) (fun K hK => ?_)
  go_simp
  refine (hc.out u se _ hdr).mono ?_
  rintro e w3 ⟨rfl, hb3⟩
  have hbd := cellB hbd hb3
  have hdr := BT hdr hb3
  refine hK _ _ hbd ?_
  clear hK K
  (try simp only [Act.put, List.setIfInBounds_toArray, List.set_cons_zero, List.set_cons_succ])
  repeat (first | (refine seq_read rfl (by rfl) _ (fun w' hS => by (try dsimp only at hS); go_simp; (try with_reducible rfl)) ?_; (try simp only [Act.put, List.setIfInBounds_toArray, List.set_cons_zero, List.set_cons_succ])) | (refine seq_skip rfl (by rfl) ?_; (try simp only [Act.put, List.setIfInBounds_toArray, List.set_cons_zero, List.set_cons_succ])))
  refine seq_end ?_
  go_wp2
  go_ret
  exact ⟨rfl, hdr⟩
end Ey
end Go.Proofs.YtcfjakifeihbpaaGreat
