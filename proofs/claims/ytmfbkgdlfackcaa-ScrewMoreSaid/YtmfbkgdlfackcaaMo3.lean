/- The law ScrewMore returns true for every measure, setting, images and number, in whatever memory. -/
import Derived.Test.YtmfbkgdlfackcaaMo2
import Derived.Test.YtmfbkgdlfackcaaSev
import Derived.Test.YtmfbkgdlfackcaaWit
import Derived.Deep.CutRange
namespace Go.Proofs.Ytmfbkgdlfackcaa
open Fw Go.RowKit

def eyeH (h : Hd) (lo sh : Int) : Hd := { h with eLo := lo, sHi := sh }

theorem Box7.put6 {X : World} {g : Nat} {h : Hd} (k : Box7 X g h) (sa : Option Addr) (n cap : Nat) : Box7 (X.setCell ⟨g, 6, none⟩ (.slice sa n cap)) g (partH h sa n cap) := by
  obtain ⟨⟨a0, a1, a2, a3, a4, a5, a6⟩, s⟩ := k
  refine ⟨?_, s.set _ _⟩
  unfold partH
  refine ⟨?_, ?_, ?_, ?_, ?_, ?_, World.cell?_setCell_same _ _ _ a6⟩
  all_goals (rw [World.cell?_setCell_other _ _ _ _ (by intro he; injection he; omega)]; assumption)
theorem Box7.far6 {X : World} {g g' : Nat} {h : Hd} (k : Box7 X g h) (hne : g ≠ g') (v : Value) : Box7 (X.setCell ⟨g', 6, none⟩ v) g h := ⟨k.box.bx (BX.set g' 6 X v) hne, k.slots.set _ _⟩
theorem setts_put6 {X : World} {g : Nat} {a : Option Addr} {ps : List Sett} {v : Value} (h : Setts X a ps) (hne : ∀ b o, a = some ⟨b, o, none⟩ → b ≠ g) : Setts (X.setCell ⟨g, 6, none⟩ v) a ps := by
  rcases h with h | ⟨b, o, h1, h2, h3⟩
  · exact .inl h
  · subst h1
    exact setts_bx (a := ⟨b, o, none⟩) (hne b o rfl) (.inr ⟨b, o, rfl, h2, h3⟩) (BX.set g 6 X v)
theorem Box7.far {X : World} {g : Nat} {h : Hd} (k : Box7 X g h) (g' o : Nat) (hne : g ≠ g') (v : Value) : Box7 (X.setCell ⟨g', o, none⟩ v) g h := ⟨k.box.bx (BX.set g' o X v) hne, k.slots.set _ _⟩
theorem setts_far {X : World} {a : Option Addr} {ps : List Sett} (h : Setts X a ps) {M : Nat} (hne : ∀ b o, a = some ⟨b, o, none⟩ → M ≤ b) (g o : Nat) (hg : g < M) (v : Value) : Setts (X.setCell ⟨g, o, none⟩ v) a ps := by
  rcases h with h | ⟨b, o', h1, h2, h3⟩
  · exact .inl h
  · subst h1
    exact setts_bx (a := ⟨b, o', none⟩) (by have := hne b o' rfl; show b ≠ g; omega) (.inr ⟨b, o', rfl, h2, h3⟩) (BX.set g o X v)
theorem Box7.putE {X : World} {g : Nat} {h : Hd} (k : Box7 X g h) (lo hi : Int) : Box7 ((X.setCell ⟨g, 1, none⟩ (.int .i64 lo)).setCell ⟨g, 2, none⟩ (.int .i64 hi)) g ⟨h.a, h.n, h.cap, lo, hi, h.images, h.sLo, h.sHi, h.sa, h.ns, h.scap⟩ := by
  obtain ⟨⟨a0, a1, a2, a3, a4, a5, a6⟩, s⟩ := k
  refine ⟨?_, (s.set _ _).set _ _⟩
  refine ⟨?_, ?_, ?_, ?_, ?_, ?_, ?_⟩ <;> simp [go_sem, a0, a1, a2, a3, a4, a5, a6]
theorem Box7.putS {X : World} {g : Nat} {h : Hd} (k : Box7 X g h) (lo hi : Int) : Box7 ((X.setCell ⟨g, 4, none⟩ (.int .i64 lo)).setCell ⟨g, 5, none⟩ (.int .i64 hi)) g ⟨h.a, h.n, h.cap, h.eLo, h.eHi, h.images, lo, hi, h.sa, h.ns, h.scap⟩ := by
  obtain ⟨⟨a0, a1, a2, a3, a4, a5, a6⟩, s⟩ := k
  refine ⟨?_, (s.set _ _).set _ _⟩
  refine ⟨?_, ?_, ?_, ?_, ?_, ?_, ?_⟩ <;> simp [go_sem, a0, a1, a2, a3, a4, a5, a6]
def zX (h : Hd) (sa : Option Addr) (cap : Nat) (lo sh : Int) : Nat → Hd
  | 0 => partH h sa (h.ns + 1) cap
  | _ => ⟨h.a, h.n, h.cap, lo, h.eHi, h.images, h.sLo, sh, h.sa, h.ns, h.scap⟩
def zS (ss : List Sett) (s : Sett) : Nat → List Sett
  | 0 => ss ++ [s]
  | _ => ss
theorem z_cells (w8 : World) (h : Hd) (sa : Option Addr) (cap : Nat) (lo sh : Int) : ∀ k : Nat, k < 2 → ∀ Y, Below (w8.alloc (.cells #[.slice h.a h.n h.cap, .int .i64 h.eLo, .int .i64 h.eHi, .int .i64 h.images, .int .i64 h.sLo, .int .i64 h.sHi, .slice sa (h.ns + 1) cap, .slice h.a h.n h.cap, .int .i64 lo, .int .i64 h.eHi, .int .i64 h.images, .int .i64 h.sLo, .int .i64 sh, .slice h.sa h.ns h.scap] 29)).heap.size (w8.alloc (.cells #[.slice h.a h.n h.cap, .int .i64 h.eLo, .int .i64 h.eHi, .int .i64 h.images, .int .i64 h.sLo, .int .i64 h.sHi, .slice sa (h.ns + 1) cap, .slice h.a h.n h.cap, .int .i64 lo, .int .i64 h.eHi, .int .i64 h.images, .int .i64 h.sLo, .int .i64 sh, .slice h.sa h.ns h.scap] 29)) Y → Y.cell? ⟨w8.heap.size, k * 7, none⟩ = some (.slice (zX h sa cap lo sh k).a (zX h sa cap lo sh k).n (zX h sa cap lo sh k).cap) ∧ Y.cell? ⟨w8.heap.size, k * 7 + 1, none⟩ = some (.int .i64 (zX h sa cap lo sh k).eLo) ∧ Y.cell? ⟨w8.heap.size, k * 7 + 2, none⟩ = some (.int .i64 (zX h sa cap lo sh k).eHi) ∧ Y.cell? ⟨w8.heap.size, k * 7 + 3, none⟩ = some (.int .i64 (zX h sa cap lo sh k).images) ∧ Y.cell? ⟨w8.heap.size, k * 7 + 4, none⟩ = some (.int .i64 (zX h sa cap lo sh k).sLo) ∧ Y.cell? ⟨w8.heap.size, k * 7 + 5, none⟩ = some (.int .i64 (zX h sa cap lo sh k).sHi) ∧ Y.cell? ⟨w8.heap.size, k * 7 + 6, none⟩ = some (.slice (zX h sa cap lo sh k).sa (zX h sa cap lo sh k).ns (zX h sa cap lo sh k).scap) := fun k hk Y hY => by
  have h01 : k = 0 ∨ k = 1 := by omega
  rcases h01 with rfl | rfl
  · refine ⟨cellB ?_ hY, cellB ?_ hY, cellB ?_ hY, cellB ?_ hY, cellB ?_ hY, cellB ?_ hY, cellB ?_ hY⟩ <;> simp [go_sem, zX, partH]
  · refine ⟨cellB ?_ hY, cellB ?_ hY, cellB ?_ hY, cellB ?_ hY, cellB ?_ hY, cellB ?_ hY, cellB ?_ hY⟩ <;> simp [go_sem, zX]
theorem z_has {Y : World} {h : Hd} {xs : List (Int × Int)} {ss : List Sett} {s : Sett} {sa : Option Addr} {cap : Nat} {lo sh : Int} (hM : HasM Y h xs ss) (hS : Setts Y sa (ss ++ [s])) (h12 : h.ns < 12) (k : Nat) : HasM Y (zX h sa cap lo sh k) xs (zS ss s k) := by
  match k with
  | 0 => exact ⟨hM.sp, hS, hM.nx, by show (ss ++ [_]).length = h.ns + 1; simp [hM.ns], hM.lx, by show (ss ++ [_]).length ≤ _; simp [hM.ns]; omega⟩
  | _ + 1 => exact ⟨hM.sp, hM.st, hM.nx, hM.ns, hM.lx, hM.ls⟩
theorem z_more {h : Hd} {xs : List (Int × Int)} {ss : List Sett} {s : Sett} {sa : Option Addr} {cap : Nat} {lo sh : Int} (hv : validH h xs ss = true) (hl : h.eLo ≤ lo ∧ lo ≤ h.eHi ∧ h.sLo ≤ sh ∧ sh ≤ h.sHi) :
    ∀ k : Nat, validH (zX h sa cap lo sh k) xs (zS ss s k) = true → Tells2 (zX h sa cap lo sh k) xs (zS ss s k) h xs ss ∧ popc (dropR h xs ss) ≤ popc (dropR (zX h sa cap lo sh k) xs (zS ss s k)) := fun k hz => by
  match k, hz with
  | 0, hz => exact ⟨more_set hv hz rfl rfl rfl rfl rfl, more_drop_set hv hz rfl rfl rfl rfl⟩
  | _ + 1, hz => exact ⟨more_narrow hv hz hl.1 (Int.le_refl _) rfl (Int.le_refl _) hl.2.2.2, more_drop_narrow hv hz hl.1 (Int.le_refl _) (Int.le_refl _) hl.2.2.2⟩
theorem z_len {ss : List Sett} (s : Sett) (h : ss.length < 12) : ∀ k : Nat, (zS ss s k).length ≤ 12 := fun k => by
  match k with
  | 0 => show (ss ++ [_]).length ≤ _; simp; omega
  | _ + 1 => show ss.length ≤ _; omega
set_option maxRecDepth 100000 in
theorem hbs (v0 v1 v2 v3 v4 v5 v6 u0 u1 u2 u3 u4 u5 u6 : Value) (w : World) :
    (Instr.buildSlice 61 2 #[(0, .agg #[v0, v1, v2, v3, v4, v5, v6]), (1, .agg #[u0, u1, u2, u3, u4, u5, u6])]).run Try.prog w = .ok (.slice (some ⟨w.heap.size, 0, none⟩) 2 2) (w.alloc (.cells #[v0, v1, v2, v3, v4, v5, v6, u0, u1, u2, u3, u4, u5, u6] 29)) := by
  kernel_rfl
theorem add_block (g j : Nat) : ((⟨g, 0, none⟩ : Addr).add j).block = g := by unfold Addr.add; split <;> rfl

set_option maxRecDepth 100000 in
set_option maxHeartbeats 16000000 in
theorem moreL_any (h : Hd) (xs : List (Int × Int)) (ss : List Sett) (im rd : Int) (rv : Bool) (a b y : Int) (w : World) (hm : HasM w h xs ss) (hrd : rd ≤ 9223372036854775807) (hy : 0 ≤ y ∧ y ≤ 255) :
    Calls Try.prog 10 #[h.val, .agg #[.int .i64 im, .int .i64 rd, .bool rv], .int .i64 a, .int .i64 b, .int .u8 y] w (Ret (.bool true) w) := by
  have hb0 := (boxM_new hm).grown (newB (w.alloc (.cells #[.slice h.a h.n h.cap, .int .i64 h.eLo, .int .i64 h.eHi, .int .i64 h.images, .int .i64 h.sLo, .int .i64 h.sHi, .slice h.sa h.ns h.scap] 29)) (.cells #[.int .i64 im, .int .i64 rd, .bool rv] 44))
  have hs0 : Hid (∀ X, Below ((w.alloc (.cells #[.slice h.a h.n h.cap, .int .i64 h.eLo, .int .i64 h.eHi, .int .i64 h.images, .int .i64 h.sLo, .int .i64 h.sHi, .slice h.sa h.ns h.scap] 29)).alloc (.cells #[.int .i64 im, .int .i64 rd, .bool rv] 44)).heap.size ((w.alloc (.cells #[.slice h.a h.n h.cap, .int .i64 h.eLo, .int .i64 h.eHi, .int .i64 h.images, .int .i64 h.sLo, .int .i64 h.sHi, .slice h.sa h.ns h.scap] 29)).alloc (.cells #[.int .i64 im, .int .i64 rd, .bool rv] 44)) X → X.cell? ⟨w.heap.size + 1, 0, none⟩ = some (.int .i64 im) ∧ X.cell? ⟨w.heap.size + 1, 1, none⟩ = some (.int .i64 rd) ∧ X.cell? ⟨w.heap.size + 1, 2, none⟩ = some (.bool rv)) := fun X hX => by
    have e0 : ((w.alloc (.cells #[.slice h.a h.n h.cap, .int .i64 h.eLo, .int .i64 h.eHi, .int .i64 h.images, .int .i64 h.sLo, .int .i64 h.sHi, .slice h.sa h.ns h.scap] 29)).alloc (.cells #[.int .i64 im, .int .i64 rd, .bool rv] 44)).cell? ⟨w.heap.size + 1, 0, none⟩ = some (.int .i64 im) := by simp [go_sem]
    have e1 : ((w.alloc (.cells #[.slice h.a h.n h.cap, .int .i64 h.eLo, .int .i64 h.eHi, .int .i64 h.images, .int .i64 h.sLo, .int .i64 h.sHi, .slice h.sa h.ns h.scap] 29)).alloc (.cells #[.int .i64 im, .int .i64 rd, .bool rv] 44)).cell? ⟨w.heap.size + 1, 1, none⟩ = some (.int .i64 rd) := by simp [go_sem]
    have e2 : ((w.alloc (.cells #[.slice h.a h.n h.cap, .int .i64 h.eLo, .int .i64 h.eHi, .int .i64 h.images, .int .i64 h.sLo, .int .i64 h.sHi, .slice h.sa h.ns h.scap] 29)).alloc (.cells #[.int .i64 im, .int .i64 rd, .bool rv] 44)).cell? ⟨w.heap.size + 1, 2, none⟩ = some (.bool rv) := by simp [go_sem]
    exact ⟨cellB e0 hX, cellB e1 hX, cellB e2 hX⟩
  have hB0 : Below w.heap.size w ((w.alloc (.cells #[.slice h.a h.n h.cap, .int .i64 h.eLo, .int .i64 h.eHi, .int .i64 h.images, .int .i64 h.sLo, .int .i64 h.sHi, .slice h.sa h.ns h.scap] 29)).alloc (.cells #[.int .i64 im, .int .i64 rd, .bool rv] 44)) := by (repeat (first | assumption | exact Below.refl _ _ | refine BA ?_ _ | refine BC ?_ _ _ (by omega) _ | refine Below.drew ?_ | refine BT ?_ (by assumption)))
  have hlx := hm.lx
  have hls := hm.ls
  rw [hm.nx] at hlx
  rw [hm.ns] at hls
  have HM := Lib.hid hm
  clear hm
  obtain ⟨hy0, hy1⟩ := hy
  unfold Hd.val
  go_enter Try.func10, Try.ntmps10
  obtain ⟨c0, c1, c2, c3, c4, c5, c6, hh⟩ := id hb0
  go_wp2_with fail
  generalize hBw : w.heap.size = B at hb0 hs0 c0 c1 c2 c3 c4 c5 c6 ⊢
  generalize (w.alloc (.cells #[.slice h.a h.n h.cap, .int .i64 h.eLo, .int .i64 h.eHi, .int .i64 h.images, .int .i64 h.sLo, .int .i64 h.sHi, .slice h.sa h.ns h.scap] 29)).alloc (.cells #[.int .i64 im, .int .i64 rd, .bool rv] 44) = W at *
  have hwB : w.heap.size ≤ B := by omega
  clear hBw
  refine (great_any h W).mono ?_
  rintro e w1 ⟨rfl, hb1⟩
  have hB1 := BT hB0 hb1
  have HB1 := Lib.hid (hb0.grown hb1)
  have HS1 : Hid (∀ X, Below w1.heap.size w1 X → X.cell? ⟨B + 1, 0, none⟩ = some (.int .i64 im) ∧ X.cell? ⟨B + 1, 1, none⟩ = some (.int .i64 rd) ∧ X.cell? ⟨B + 1, 2, none⟩ = some (.bool rv)) := fun X hX => hs0.out X (BT hb1 hX)
  clear hb0 hb1 hB0 hs0 hh c0 c1 c2 c3 c4 c5 c6
  cases hg : greatB h.n h.ns
  case true =>
    clear HB1 HS1
    go_wp2_with fail
    refine (alive_any _).mono ?_
    rintro e w2 ⟨rfl, hb2⟩
    go_wp2
    go_ret
    exact ⟨rfl, by (repeat (first | assumption | exact Below.refl _ _ | refine BA ?_ _ | refine BC ?_ _ _ (by omega) _ | refine Below.drew ?_ | refine BT ?_ (by assumption)))⟩
  have hg1 : h.ns ≤ 30 ∧ h.n ≤ 100 := by simp [greatB] at hg; omega
  clear hg
  have hnx : xs.length ≤ 100 := by rw [HB1.out.has.nx]; omega
  have hnS := HB1.out.has.ns
  have hns : ss.length ≤ 100 := by rw [hnS]; omega
  obtain ⟨c0, c1, c2, c3, c4, c5, c6, hh⟩ := HB1.out
  have hme := measureR_any h xs ss w1 hh hnx hns
  unfold Hd.val at hme
  clear hh
  go_wp2_with fail
  refine hme.mono ?_
  rintro e w2 ⟨rfl, hb2⟩
  have hB2 := BT hB1 hb2
  have HB2 := Lib.hid (HB1.out.grown hb2)
  have HS2 : Hid (∀ X, Below w2.heap.size w2 X → X.cell? ⟨B + 1, 0, none⟩ = some (.int .i64 im) ∧ X.cell? ⟨B + 1, 1, none⟩ = some (.int .i64 rd) ∧ X.cell? ⟨B + 1, 2, none⟩ = some (.bool rv)) := fun X hX => HS1.out X (BT hb2 hX)
  clear HB1 HS1 hb2 hB1 c0 c1 c2 c3 c4 c5 c6 hme
  cases hv : validH h xs ss
  case false =>
    clear HB2 HS2
    go_wp2_with fail
    refine (alive_any _).mono ?_
    rintro e w3 ⟨rfl, hb3⟩
    go_wp2
    go_ret
    exact ⟨rfl, by (repeat (first | assumption | exact Below.refl _ _ | refine BA ?_ _ | refine BC ?_ _ _ (by omega) _ | refine Below.drew ?_ | refine BT ?_ (by assumption)))⟩
  obtain ⟨c0, c1, c2, c3, c4, c5, c6, hh⟩ := HB2.out
  clear hh
  by_cases h12 : h.ns < 12
  case neg =>
    have h12b : ((h.ns : Int) ≥ 12) := by omega
    clear HB2 HS2
    go_wp2_with fail
    refine (alive_any _).mono ?_
    rintro e w3 ⟨rfl, hb3⟩
    go_wp2
    go_ret
    exact ⟨rfl, by (repeat (first | assumption | exact Below.refl _ _ | refine BA ?_ _ | refine BC ?_ _ _ (by omega) _ | refine Below.drew ?_ | refine BT ?_ (by assumption)))⟩
  have hn12 : (h.ns : Int) < 12 := by omega
  have HV := Lib.hid hv
  have HNS := Lib.hid hnS
  obtain ⟨va, vb, vc, vd, ve, vf, vg⟩ := valid_has hv
  have HR : Hid (-100 ≤ h.eLo ∧ h.eLo ≤ h.eHi ∧ h.eHi ≤ 100 ∧ 0 ≤ h.sLo ∧ h.sLo ≤ h.sHi ∧ h.sHi ≤ 131072) := by show _ ∧ _; omega
  have HRD : Hid (∀ t ∈ ss, t.2.1 ≤ 9223372036854775807) := fun t ht => by have := vg t ht; omega
  clear hv va vb vc vd ve vf vg hnS hns hnx hg1
  go_upto_region 3 with fail
  clear c0 c1 c2 c3 c4 c5 c6
  have hBX : BoxC w2 B h := ⟨HB2.out.c0, HB2.out.c1, HB2.out.c2, HB2.out.c3, HB2.out.c4, HB2.out.c5, HB2.out.c6⟩
  have hSG : Hid (∀ X, Below w2.heap.size w2 X → X.cell? ⟨B, 0, none⟩ = some (.slice h.a h.n h.cap) ∧ X.cell? ⟨B, 1, none⟩ = some (.int .i64 h.eLo) ∧ X.cell? ⟨B, 2, none⟩ = some (.int .i64 h.eHi) ∧ X.cell? ⟨B, 3, none⟩ = some (.int .i64 h.images) ∧ X.cell? ⟨B, 4, none⟩ = some (.int .i64 h.sLo) ∧ X.cell? ⟨B, 5, none⟩ = some (.int .i64 h.sHi) ∧ X.cell? ⟨B, 6, none⟩ = some (.slice h.sa h.ns h.scap) ∧ X.cell? ⟨B + 1, 0, none⟩ = some (.int .i64 im) ∧ X.cell? ⟨B + 1, 1, none⟩ = some (.int .i64 rd) ∧ X.cell? ⟨B + 1, 2, none⟩ = some (.bool rv)) := fun X hX => by
    obtain ⟨d0, d1, d2, d3, d4, d5, d6⟩ := hBX.grown hX
    obtain ⟨e0, e1, e2⟩ := HS2.out X hX
    exact ⟨d0, d1, d2, d3, d4, d5, d6, e0, e1, e2⟩
  have hB0 : Below w2.heap.size w2 w2.drew := Below.drew (Below.refl _ _)
  go_cut [11, 12] from 34 to 49 (fun a11 a12 X => ∃ g2 g3 : Nat, a11 = .pointer (some ⟨g2, 0, none⟩) ∧ a12 = .pointer (some ⟨g3, 0, none⟩) ∧ Box7 X g2 h ∧ Box7 X g3 h ∧ g2 ≠ g3 ∧ w2.heap.size ≤ g2 ∧ w2.heap.size ≤ g3 ∧ Below w2.heap.size w2 X)
  case first =>
    refine wp_region_tree (.read 0 (.read 1 (.two 2 (.one 3 (.one 4 (.one 5 (.leaf)))) 3 (.one 2 (.one 4 (.one 5 (.leaf))))))) (fun w' => w'.cell? ⟨B, 0, none⟩ = some (.slice h.a h.n h.cap) ∧ w'.cell? ⟨B, 1, none⟩ = some (.int .i64 h.eLo) ∧ w'.cell? ⟨B, 2, none⟩ = some (.int .i64 h.eHi) ∧ w'.cell? ⟨B, 3, none⟩ = some (.int .i64 h.images) ∧ w'.cell? ⟨B, 4, none⟩ = some (.int .i64 h.sLo) ∧ w'.cell? ⟨B, 5, none⟩ = some (.int .i64 h.sHi) ∧ w'.cell? ⟨B, 6, none⟩ = some (.slice h.sa h.ns h.scap) ∧ w'.cell? ⟨B + 1, 0, none⟩ = some (.int .i64 im) ∧ w'.cell? ⟨B + 1, 1, none⟩ = some (.int .i64 rd) ∧ w'.cell? ⟨B + 1, 2, none⟩ = some (.bool rv)) (by kernel_rfl) (by kernel_rfl) (fun _ _ d _ _ h => by cases d <;> exact h) (hSG.out _ hB0) ?_
    generalize w2.drew = X0 at *
    repeat (first | (refine tr_read rfl (by rfl) _ (fun w' hS => by (try dsimp only at hS); go_simp; (try with_reducible rfl)) ?_; (try simp only [Act.put, List.setIfInBounds_toArray, List.set_cons_zero, List.set_cons_succ])) | (refine tr_skip rfl (by rfl) ?_; (try simp only [Act.put, List.setIfInBounds_toArray, List.set_cons_zero, List.set_cons_succ])))
    refine ⟨?_, ?_⟩
    · skip
      refine tr_step rfl (by rfl) (fun K hK => ?_)
      have hB1 := BA hB0 (.cells #[.slice none 0 0, .int .i64 0, .int .i64 0, .int .i64 0, .int .i64 0, .int .i64 0, .slice none 0 0] 29)
      have h2_1 := slots_new7 X0 29
      have hg2 := hB0.size
      go_simp
      generalize X0.heap.size = g2 at *
      generalize X0.alloc (.cells #[.slice none 0 0, .int .i64 0, .int .i64 0, .int .i64 0, .int .i64 0, .int .i64 0, .slice none 0 0] 29) = X1 at *
      refine hK _ _ (hSG.out _ hB1) ?_
      clear hK K hB0 
      (try simp only [Act.put, List.setIfInBounds_toArray, List.set_cons_zero, List.set_cons_succ])
      refine tr_step rfl (by rfl) (fun K hK => ?_)
      have hB2 := BA hB1 (.cells #[.slice none 0 0, .int .i64 0, .int .i64 0, .int .i64 0, .int .i64 0, .int .i64 0, .slice none 0 0] 29)
      have h2_2 := h2_1.below (newB X1 (.cells #[.slice none 0 0, .int .i64 0, .int .i64 0, .int .i64 0, .int .i64 0, .int .i64 0, .slice none 0 0] 29)) (h2_1.lt7)
      have hlt2_2 := h2_1.lt7
      have h3_2 := slots_new7 X1 29
      have hg3 := hB1.size
      go_simp
      generalize X1.heap.size = g3 at *
      generalize X1.alloc (.cells #[.slice none 0 0, .int .i64 0, .int .i64 0, .int .i64 0, .int .i64 0, .int .i64 0, .slice none 0 0] 29) = X2 at *
      refine hK _ _ (hSG.out _ hB2) ?_
      clear hK K hB1 h2_1
      (try simp only [Act.put, List.setIfInBounds_toArray, List.set_cons_zero, List.set_cons_succ])
      refine tr_step rfl (by rfl) (fun K hK => ?_)
      obtain ⟨u0_3, q0_3, f0_3⟩ := h2_2.get 0 (by omega)
      obtain ⟨u1_3, q1_3, f1_3⟩ := h2_2.get 1 (by omega)
      obtain ⟨u2_3, q2_3, f2_3⟩ := h2_2.get 2 (by omega)
      obtain ⟨u3_3, q3_3, f3_3⟩ := h2_2.get 3 (by omega)
      obtain ⟨u4_3, q4_3, f4_3⟩ := h2_2.get 4 (by omega)
      obtain ⟨u5_3, q5_3, f5_3⟩ := h2_2.get 5 (by omega)
      obtain ⟨u6_3, q6_3, f6_3⟩ := h2_2.get 6 (by omega)
      have hB3 := (BC (BC (BC (BC (BC (BC (BC hB2 g2 0 hg2 (.slice h.a h.n h.cap)) g2 1 hg2 (.int .i64 h.eLo)) g2 2 hg2 (.int .i64 h.eHi)) g2 3 hg2 (.int .i64 h.images)) g2 4 hg2 (.int .i64 h.sLo)) g2 5 hg2 (.int .i64 h.sHi)) g2 6 hg2 (.slice h.sa h.ns h.scap))
      have h3_3 := h3_2.far7 (g' := g2) (by omega) h
      have h2_3 := box_put7 h2_2 h
      unfold put7 at *
      go_simp
      clear q0_3 f0_3 q1_3 f1_3 q2_3 f2_3 q3_3 f3_3 q4_3 f4_3 q5_3 f5_3 q6_3 f6_3
      generalize (((((((X2.setCell ⟨g2, 0, none⟩ (.slice h.a h.n h.cap)).setCell ⟨g2, 1, none⟩ (.int .i64 h.eLo)).setCell ⟨g2, 2, none⟩ (.int .i64 h.eHi)).setCell ⟨g2, 3, none⟩ (.int .i64 h.images)).setCell ⟨g2, 4, none⟩ (.int .i64 h.sLo)).setCell ⟨g2, 5, none⟩ (.int .i64 h.sHi)).setCell ⟨g2, 6, none⟩ (.slice h.sa h.ns h.scap)) = X3 at *
      refine hK _ _ (hSG.out _ hB3) ?_
      clear hK K hB2 h3_2 h2_2
      (try simp only [Act.put, List.setIfInBounds_toArray, List.set_cons_zero, List.set_cons_succ])
      refine tr_last rfl (by rfl) (by kernel_rfl) (fun K hK => ?_)
      obtain ⟨u0_4, q0_4, f0_4⟩ := h3_3.get 0 (by omega)
      obtain ⟨u1_4, q1_4, f1_4⟩ := h3_3.get 1 (by omega)
      obtain ⟨u2_4, q2_4, f2_4⟩ := h3_3.get 2 (by omega)
      obtain ⟨u3_4, q3_4, f3_4⟩ := h3_3.get 3 (by omega)
      obtain ⟨u4_4, q4_4, f4_4⟩ := h3_3.get 4 (by omega)
      obtain ⟨u5_4, q5_4, f5_4⟩ := h3_3.get 5 (by omega)
      obtain ⟨u6_4, q6_4, f6_4⟩ := h3_3.get 6 (by omega)
      have hB4 := (BC (BC (BC (BC (BC (BC (BC hB3 g3 0 hg3 (.slice h.a h.n h.cap)) g3 1 hg3 (.int .i64 h.eLo)) g3 2 hg3 (.int .i64 h.eHi)) g3 3 hg3 (.int .i64 h.images)) g3 4 hg3 (.int .i64 h.sLo)) g3 5 hg3 (.int .i64 h.sHi)) g3 6 hg3 (.slice h.sa h.ns h.scap))
      have h2_4 := h2_3.far7 (g' := g3) (by omega) h
      have h3_4 := box_put7 h3_3 h
      unfold put7 at *
      go_simp
      clear q0_4 f0_4 q1_4 f1_4 q2_4 f2_4 q3_4 f3_4 q4_4 f4_4 q5_4 f5_4 q6_4 f6_4
      generalize (((((((X3.setCell ⟨g3, 0, none⟩ (.slice h.a h.n h.cap)).setCell ⟨g3, 1, none⟩ (.int .i64 h.eLo)).setCell ⟨g3, 2, none⟩ (.int .i64 h.eHi)).setCell ⟨g3, 3, none⟩ (.int .i64 h.images)).setCell ⟨g3, 4, none⟩ (.int .i64 h.sLo)).setCell ⟨g3, 5, none⟩ (.int .i64 h.sHi)).setCell ⟨g3, 6, none⟩ (.slice h.sa h.ns h.scap)) = X4 at *
      refine hK _ _ ?_
      clear hK K hB3 h2_3 h3_3
      (try simp only [Act.put, List.setIfInBounds_toArray, List.set_cons_zero, List.set_cons_succ])
      show Exit.then _ _ Exit.normal _ _
      go_wp2_with fail
      go_meet
      exact ⟨g2, g3, rfl, rfl, h2_4, h3_4, by omega, hg2, hg3, hB4⟩
    · skip
      refine tr_step rfl (by rfl) (fun K hK => ?_)
      have hB5 := BA hB0 (.cells #[.slice none 0 0, .int .i64 0, .int .i64 0, .int .i64 0, .int .i64 0, .int .i64 0, .slice none 0 0] 29)
      have h3_5 := slots_new7 X0 29
      have hg3 := hB0.size
      go_simp
      generalize X0.heap.size = g3 at *
      generalize X0.alloc (.cells #[.slice none 0 0, .int .i64 0, .int .i64 0, .int .i64 0, .int .i64 0, .int .i64 0, .slice none 0 0] 29) = X5 at *
      refine hK _ _ (hSG.out _ hB5) ?_
      clear hK K hB0 
      (try simp only [Act.put, List.setIfInBounds_toArray, List.set_cons_zero, List.set_cons_succ])
      refine tr_step rfl (by rfl) (fun K hK => ?_)
      have hB6 := BA hB5 (.cells #[.slice none 0 0, .int .i64 0, .int .i64 0, .int .i64 0, .int .i64 0, .int .i64 0, .slice none 0 0] 29)
      have h3_6 := h3_5.below (newB X5 (.cells #[.slice none 0 0, .int .i64 0, .int .i64 0, .int .i64 0, .int .i64 0, .int .i64 0, .slice none 0 0] 29)) (h3_5.lt7)
      have hlt3_6 := h3_5.lt7
      have h2_6 := slots_new7 X5 29
      have hg2 := hB5.size
      go_simp
      generalize X5.heap.size = g2 at *
      generalize X5.alloc (.cells #[.slice none 0 0, .int .i64 0, .int .i64 0, .int .i64 0, .int .i64 0, .int .i64 0, .slice none 0 0] 29) = X6 at *
      refine hK _ _ (hSG.out _ hB6) ?_
      clear hK K hB5 h3_5
      (try simp only [Act.put, List.setIfInBounds_toArray, List.set_cons_zero, List.set_cons_succ])
      refine tr_step rfl (by rfl) (fun K hK => ?_)
      obtain ⟨u0_7, q0_7, f0_7⟩ := h2_6.get 0 (by omega)
      obtain ⟨u1_7, q1_7, f1_7⟩ := h2_6.get 1 (by omega)
      obtain ⟨u2_7, q2_7, f2_7⟩ := h2_6.get 2 (by omega)
      obtain ⟨u3_7, q3_7, f3_7⟩ := h2_6.get 3 (by omega)
      obtain ⟨u4_7, q4_7, f4_7⟩ := h2_6.get 4 (by omega)
      obtain ⟨u5_7, q5_7, f5_7⟩ := h2_6.get 5 (by omega)
      obtain ⟨u6_7, q6_7, f6_7⟩ := h2_6.get 6 (by omega)
      have hB7 := (BC (BC (BC (BC (BC (BC (BC hB6 g2 0 hg2 (.slice h.a h.n h.cap)) g2 1 hg2 (.int .i64 h.eLo)) g2 2 hg2 (.int .i64 h.eHi)) g2 3 hg2 (.int .i64 h.images)) g2 4 hg2 (.int .i64 h.sLo)) g2 5 hg2 (.int .i64 h.sHi)) g2 6 hg2 (.slice h.sa h.ns h.scap))
      have h3_7 := h3_6.far7 (g' := g2) (by omega) h
      have h2_7 := box_put7 h2_6 h
      unfold put7 at *
      go_simp
      clear q0_7 f0_7 q1_7 f1_7 q2_7 f2_7 q3_7 f3_7 q4_7 f4_7 q5_7 f5_7 q6_7 f6_7
      generalize (((((((X6.setCell ⟨g2, 0, none⟩ (.slice h.a h.n h.cap)).setCell ⟨g2, 1, none⟩ (.int .i64 h.eLo)).setCell ⟨g2, 2, none⟩ (.int .i64 h.eHi)).setCell ⟨g2, 3, none⟩ (.int .i64 h.images)).setCell ⟨g2, 4, none⟩ (.int .i64 h.sLo)).setCell ⟨g2, 5, none⟩ (.int .i64 h.sHi)).setCell ⟨g2, 6, none⟩ (.slice h.sa h.ns h.scap)) = X7 at *
      refine hK _ _ (hSG.out _ hB7) ?_
      clear hK K hB6 h3_6 h2_6
      (try simp only [Act.put, List.setIfInBounds_toArray, List.set_cons_zero, List.set_cons_succ])
      refine tr_last rfl (by rfl) (by kernel_rfl) (fun K hK => ?_)
      obtain ⟨u0_8, q0_8, f0_8⟩ := h3_7.get 0 (by omega)
      obtain ⟨u1_8, q1_8, f1_8⟩ := h3_7.get 1 (by omega)
      obtain ⟨u2_8, q2_8, f2_8⟩ := h3_7.get 2 (by omega)
      obtain ⟨u3_8, q3_8, f3_8⟩ := h3_7.get 3 (by omega)
      obtain ⟨u4_8, q4_8, f4_8⟩ := h3_7.get 4 (by omega)
      obtain ⟨u5_8, q5_8, f5_8⟩ := h3_7.get 5 (by omega)
      obtain ⟨u6_8, q6_8, f6_8⟩ := h3_7.get 6 (by omega)
      have hB8 := (BC (BC (BC (BC (BC (BC (BC hB7 g3 0 hg3 (.slice h.a h.n h.cap)) g3 1 hg3 (.int .i64 h.eLo)) g3 2 hg3 (.int .i64 h.eHi)) g3 3 hg3 (.int .i64 h.images)) g3 4 hg3 (.int .i64 h.sLo)) g3 5 hg3 (.int .i64 h.sHi)) g3 6 hg3 (.slice h.sa h.ns h.scap))
      have h2_8 := h2_7.far7 (g' := g3) (by omega) h
      have h3_8 := box_put7 h3_7 h
      unfold put7 at *
      go_simp
      clear q0_8 f0_8 q1_8 f1_8 q2_8 f2_8 q3_8 f3_8 q4_8 f4_8 q5_8 f5_8 q6_8 f6_8
      generalize (((((((X7.setCell ⟨g3, 0, none⟩ (.slice h.a h.n h.cap)).setCell ⟨g3, 1, none⟩ (.int .i64 h.eLo)).setCell ⟨g3, 2, none⟩ (.int .i64 h.eHi)).setCell ⟨g3, 3, none⟩ (.int .i64 h.images)).setCell ⟨g3, 4, none⟩ (.int .i64 h.sLo)).setCell ⟨g3, 5, none⟩ (.int .i64 h.sHi)).setCell ⟨g3, 6, none⟩ (.slice h.sa h.ns h.scap)) = X8 at *
      refine hK _ _ ?_
      clear hK K hB7 h2_7 h3_7
      (try simp only [Act.put, List.setIfInBounds_toArray, List.set_cons_zero, List.set_cons_succ])
      show Exit.then _ _ Exit.normal _ _
      go_wp2_with fail
      go_meet
      exact ⟨g2, g3, rfl, rfl, h2_8, h3_8, by omega, hg2, hg3, hB8⟩
  case rest =>
    obtain ⟨g11, g12, rfl, rfl, b11, b12, hne, hg11, hg12, hb3⟩ := hcut
    have HX11 := Lib.hid b11
    have HX12 := Lib.hid b12
    clear b11 b12 hB0
    obtain ⟨w3, rfl⟩ : ∃ w3 : World, w3 = wc := ⟨_, rfl⟩
    have hB3 := BT hB2 hb3
    have HSG : Hid (∀ X, Below w3.heap.size w3 X → X.cell? ⟨B, 0, none⟩ = some (.slice h.a h.n h.cap) ∧ X.cell? ⟨B, 1, none⟩ = some (.int .i64 h.eLo) ∧ X.cell? ⟨B, 2, none⟩ = some (.int .i64 h.eHi) ∧ X.cell? ⟨B, 3, none⟩ = some (.int .i64 h.images) ∧ X.cell? ⟨B, 4, none⟩ = some (.int .i64 h.sLo) ∧ X.cell? ⟨B, 5, none⟩ = some (.int .i64 h.sHi) ∧ X.cell? ⟨B, 6, none⟩ = some (.slice h.sa h.ns h.scap) ∧ X.cell? ⟨B + 1, 0, none⟩ = some (.int .i64 im) ∧ X.cell? ⟨B + 1, 1, none⟩ = some (.int .i64 rd) ∧ X.cell? ⟨B + 1, 2, none⟩ = some (.bool rv)) := fun X hX => hSG.out X (BT hb3 hX)
    have hB0 : Below w3.heap.size w3 w3.drew := Below.drew (Below.refl _ _)
    have HST : Hid (∀ X, Below w3.heap.size w3 X → Setts X h.sa ss) := fun X hX => HM.out.st.below (Nat.le_refl _) (BT hB3 hX)
    have HSL : Hid (∀ X, Below w3.heap.size w3 X → Slots g11 7 X) := fun X hX => (HX11.out.grown7 hX).slots
    have hg11l : g11 < w3.heap.size := HX11.out.lt7
    have HRS : Hid (∀ t ∈ ss ++ [(im, rd, rv)], t.2.1 ≤ 9223372036854775807) := fun t ht => by
      rcases List.mem_append.1 ht with h1 | h1
      · exact HRD.out t h1
      · rw [List.mem_singleton.1 h1]; exact hrd
    obtain ⟨i0, hi9, hz0, hz1, hz2⟩ := info44p
    clear hSG
    go_upto_region 4 with fail
    go_cut [12] from 50 to 57 (fun a12 X => a12 = .pointer (some ⟨g12, 0, none⟩) ∧ ∃ (sa : Option Addr) (cap : Nat) (X' : World), X = X'.setCell ⟨g11, 6, none⟩ (.slice sa (h.ns + 1) cap) ∧ Setts X' sa (ss ++ [(im, rd, rv)]) ∧ (∀ b o, sa = some ⟨b, o, none⟩ → w3.heap.size ≤ b) ∧ Below w3.heap.size w3 X')
    case first =>
      refine wp_region_tree (.read 1 (.read 2 (.read 4 (.two 0 (.two 3 (.one 5 (.one 6 (.read 7 (.one 8 (.leaf))))) 5 (.one 3 (.one 6 (.read 7 (.one 8 (.leaf)))))) 5 (.one 0 (.one 3 (.one 6 (.read 7 (.one 8 (.leaf)))))))))) (fun w' => w'.cell? ⟨B, 0, none⟩ = some (.slice h.a h.n h.cap) ∧ w'.cell? ⟨B, 1, none⟩ = some (.int .i64 h.eLo) ∧ w'.cell? ⟨B, 2, none⟩ = some (.int .i64 h.eHi) ∧ w'.cell? ⟨B, 3, none⟩ = some (.int .i64 h.images) ∧ w'.cell? ⟨B, 4, none⟩ = some (.int .i64 h.sLo) ∧ w'.cell? ⟨B, 5, none⟩ = some (.int .i64 h.sHi) ∧ w'.cell? ⟨B, 6, none⟩ = some (.slice h.sa h.ns h.scap) ∧ w'.cell? ⟨B + 1, 0, none⟩ = some (.int .i64 im) ∧ w'.cell? ⟨B + 1, 1, none⟩ = some (.int .i64 rd) ∧ w'.cell? ⟨B + 1, 2, none⟩ = some (.bool rv)) (by kernel_rfl) (by kernel_rfl) (fun _ _ d _ _ h => by cases d <;> exact h) (HSG.out _ hB0) ?_
      generalize w3.drew = X0 at *
      repeat (first | (refine tr_read rfl (by rfl) _ (fun w' hS => by (try dsimp only at hS); go_simp; (try with_reducible rfl)) ?_; (try simp only [Act.put, List.setIfInBounds_toArray, List.set_cons_zero, List.set_cons_succ])) | (refine tr_skip rfl (by rfl) ?_; (try simp only [Act.put, List.setIfInBounds_toArray, List.set_cons_zero, List.set_cons_succ])))
      refine ⟨?_, ?_⟩
      · skip
        refine tr_step rfl (by rfl) (fun K hK => ?_)
        have hB1 := BA hB0 (.cells #[] 44)
        have hrow1 := World.ownsRow_lit (base := w3.heap.size) (e := 44) (size := 3) X0 #[] 0 hB0.size (by unfold maxLen; omega) (by rfl)
        go_simp
        generalize X0.heap.size = gv at *
        generalize X0.alloc (.cells #[] 44) = X1 at *
        refine hK _ _ (HSG.out _ hB1) ?_
        clear hK K
        (try simp only [Act.put, List.setIfInBounds_toArray, List.set_cons_zero, List.set_cons_succ])
        refine ⟨?_, ?_⟩
        · skip
          refine tr_step rfl (by rfl) (fun K hK => ?_)
          refine wp_append_setts (.tmp 50) (.tmp 52) rfl w3.heap.size (.slice (some ⟨gv, 0, none⟩) 0 0) (by rfl) hrow1 h.sa h.ns h.scap ss (by rfl) (HST.out _ hB1) HNS.out (by omega) hB1.size ?_
          intro v1 X2 hrow2 hgr2
          have hB2 := hB1.grown hgr2 hB1.size (fun k hk => (hrow1.lt k hk).1)
          refine hK _ _ (HSG.out _ hB2) ?_
          clear hK K
          (try simp only [Act.put, List.setIfInBounds_toArray, List.set_cons_zero, List.set_cons_succ])
          refine tr_step rfl (by rfl) (fun K hK => ?_)
          have hB3 := BA hB2 (.cells #[.int .i64 im, .int .i64 rd, .bool rv] 44)
          have hn3 : ∀ j u, ([.int .i64 im, .int .i64 rd, .bool rv] : List Value)[j]? = some u → (X2.alloc (.cells #[.int .i64 im, .int .i64 rd, .bool rv] 44)).cell? ((⟨X2.heap.size, 0, none⟩ : Addr).add j) = some u := World.news_of_block (heap_alloc_new X2 _)
          have hgs3 : X2.heap.size < (X2.alloc (.cells #[.int .i64 im, .int .i64 rd, .bool rv] 44)).heap.size := by simp
          have hgw3 := hB2.size
          have hrow3 := hrow2.kept (World.grownBy_alloc X2 (.cells #[.int .i64 im, .int .i64 rd, .bool rv] 44) none) (by first | (simp [Value.ownBlock]; done) | (cases hq : Value.ownBlock v1 <;> simp))
          go_simp
          generalize X2.heap.size = gs at *
          generalize X2.alloc (.cells #[.int .i64 im, .int .i64 rd, .bool rv] 44) = X3 at *
          refine hK _ _ (HSG.out _ hB3) ?_
          clear hK K
          (try simp only [Act.put, List.setIfInBounds_toArray, List.set_cons_zero, List.set_cons_succ])
          refine tr_step rfl (by rfl) (fun K hK => ?_)
          refine wp_append_lies X3 (.tmp 53) (.tmp 55) 27 rfl w3.heap.size 44 i0 (.agg #[.int .i64 0, .int .i64 0, .bool false]) 3 24 Try.underlying27 hi9 hz0 hz1 hz2 rfl (by decide) v1 h.ns (ss.flatMap settV) (by rfl) hrow3 ⟨gs, 0, none⟩ 1 1 [.int .i64 im, .int .i64 rd, .bool rv] (by rfl) rfl hn3 (by intro u hu; simp at hu; rcases hu with rfl | rfl | rfl <;> rfl) (by omega) (by unfold maxLen; omega) (by omega) hB3.size _ rfl ?_
          intro gr cap X4 hrow4 hgr4 _ _
          have hB4 := hB3.grown hgr4 hB3.size (fun k hk => (hrow3.lt k hk).1)
          have hst4 : Setts X4 (some ⟨gr, 0, none⟩) (ss ++ [(im, rd, rv)]) := setts_row (base := w3.heap.size) (n := h.ns + 1) (cap := cap) (by rw [List.flatMap_append]; exact hrow4) (by simp [HNS.out]) HRS.out
          have hge4 := (hrow4.lt gr rfl).1
          refine hK _ _ (HSG.out _ hB4) ?_
          clear hK K
          (try simp only [Act.put, List.setIfInBounds_toArray, List.set_cons_zero, List.set_cons_succ])
          repeat (first | (refine tr_read rfl (by rfl) _ (fun w' hS => by (try dsimp only at hS); go_simp; (try with_reducible rfl)) ?_; (try simp only [Act.put, List.setIfInBounds_toArray, List.set_cons_zero, List.set_cons_succ])) | (refine tr_skip rfl (by rfl) ?_; (try simp only [Act.put, List.setIfInBounds_toArray, List.set_cons_zero, List.set_cons_succ])))
          refine tr_last rfl (by rfl) (by kernel_rfl) (fun K hK => ?_)
          obtain ⟨u6, q6, f6⟩ := (HSL.out _ hB4).get 6 (by omega)
          go_simp
          refine hK _ _ ?_
          clear hK K
          (try simp only [Act.put, List.setIfInBounds_toArray, List.set_cons_zero, List.set_cons_succ])
          show Exit.then _ _ Exit.normal _ _
          go_wp2_with fail
          go_meet
          exact ⟨rfl, some ⟨gr, 0, none⟩, cap, X4, rfl, hst4, fun b o e => by injection e with e; injection e with e; rw [← e]; exact hge4, hB4⟩
        · skip
          refine tr_step rfl (by rfl) (fun K hK => ?_)
          have hB2 := BA hB1 (.cells #[.int .i64 im, .int .i64 rd, .bool rv] 44)
          have hn2 : ∀ j u, ([.int .i64 im, .int .i64 rd, .bool rv] : List Value)[j]? = some u → (X1.alloc (.cells #[.int .i64 im, .int .i64 rd, .bool rv] 44)).cell? ((⟨X1.heap.size, 0, none⟩ : Addr).add j) = some u := World.news_of_block (heap_alloc_new X1 _)
          have hgs2 : X1.heap.size < (X1.alloc (.cells #[.int .i64 im, .int .i64 rd, .bool rv] 44)).heap.size := by simp
          have hgw2 := hB1.size
          have hvs := (hrow1.lt gv rfl).2
          have hrow2 := hrow1.kept (World.grownBy_alloc X1 (.cells #[.int .i64 im, .int .i64 rd, .bool rv] 44) none) (by first | (simp [Value.ownBlock]; done) | (cases hq : Value.ownBlock v1 <;> simp))
          go_simp
          generalize X1.heap.size = gs at *
          generalize X1.alloc (.cells #[.int .i64 im, .int .i64 rd, .bool rv] 44) = X2 at *
          refine hK _ _ (HSG.out _ hB2) ?_
          clear hK K
          (try simp only [Act.put, List.setIfInBounds_toArray, List.set_cons_zero, List.set_cons_succ])
          refine tr_step rfl (by rfl) (fun K hK => ?_)
          refine wp_append_setts (.tmp 50) (.tmp 52) rfl w3.heap.size (.slice (some ⟨gv, 0, none⟩) 0 0) (by rfl) hrow2 h.sa h.ns h.scap ss (by rfl) (HST.out _ hB2) HNS.out (by omega) hB2.size ?_
          intro v1 X3 hrow3 hgr3
          have hB3 := hB2.grown hgr3 hB2.size (fun k hk => (hrow2.lt k hk).1)
          refine hK _ _ (HSG.out _ hB3) ?_
          clear hK K
          (try simp only [Act.put, List.setIfInBounds_toArray, List.set_cons_zero, List.set_cons_succ])
          have hn3 : ∀ j u, ([.int .i64 im, .int .i64 rd, .bool rv] : List Value)[j]? = some u → X3.cell? ((⟨gs, 0, none⟩ : Addr).add j) = some u := fun j u hj => hgr3.cell (hn2 j u hj) (by rw [add_block]; show some gs ≠ some gv; intro e; injection e with e; omega)
          refine tr_step rfl (by rfl) (fun K hK => ?_)
          refine wp_append_lies X3 (.tmp 53) (.tmp 55) 27 rfl w3.heap.size 44 i0 (.agg #[.int .i64 0, .int .i64 0, .bool false]) 3 24 Try.underlying27 hi9 hz0 hz1 hz2 rfl (by decide) v1 h.ns (ss.flatMap settV) (by rfl) hrow3 ⟨gs, 0, none⟩ 1 1 [.int .i64 im, .int .i64 rd, .bool rv] (by rfl) rfl hn3 (by intro u hu; simp at hu; rcases hu with rfl | rfl | rfl <;> rfl) (by omega) (by unfold maxLen; omega) (by omega) hB3.size _ rfl ?_
          intro gr cap X4 hrow4 hgr4 _ _
          have hB4 := hB3.grown hgr4 hB3.size (fun k hk => (hrow3.lt k hk).1)
          have hst4 : Setts X4 (some ⟨gr, 0, none⟩) (ss ++ [(im, rd, rv)]) := setts_row (base := w3.heap.size) (n := h.ns + 1) (cap := cap) (by rw [List.flatMap_append]; exact hrow4) (by simp [HNS.out]) HRS.out
          have hge4 := (hrow4.lt gr rfl).1
          refine hK _ _ (HSG.out _ hB4) ?_
          clear hK K
          (try simp only [Act.put, List.setIfInBounds_toArray, List.set_cons_zero, List.set_cons_succ])
          repeat (first | (refine tr_read rfl (by rfl) _ (fun w' hS => by (try dsimp only at hS); go_simp; (try with_reducible rfl)) ?_; (try simp only [Act.put, List.setIfInBounds_toArray, List.set_cons_zero, List.set_cons_succ])) | (refine tr_skip rfl (by rfl) ?_; (try simp only [Act.put, List.setIfInBounds_toArray, List.set_cons_zero, List.set_cons_succ])))
          refine tr_last rfl (by rfl) (by kernel_rfl) (fun K hK => ?_)
          obtain ⟨u6, q6, f6⟩ := (HSL.out _ hB4).get 6 (by omega)
          go_simp
          refine hK _ _ ?_
          clear hK K
          (try simp only [Act.put, List.setIfInBounds_toArray, List.set_cons_zero, List.set_cons_succ])
          show Exit.then _ _ Exit.normal _ _
          go_wp2_with fail
          go_meet
          exact ⟨rfl, some ⟨gr, 0, none⟩, cap, X4, rfl, hst4, fun b o e => by injection e with e; injection e with e; rw [← e]; exact hge4, hB4⟩
      · skip
        refine tr_step rfl (by rfl) (fun K hK => ?_)
        have hB1 := BA hB0 (.cells #[.int .i64 im, .int .i64 rd, .bool rv] 44)
        have hn1 : ∀ j u, ([.int .i64 im, .int .i64 rd, .bool rv] : List Value)[j]? = some u → (X0.alloc (.cells #[.int .i64 im, .int .i64 rd, .bool rv] 44)).cell? ((⟨X0.heap.size, 0, none⟩ : Addr).add j) = some u := World.news_of_block (heap_alloc_new X0 _)
        have hgs1 : X0.heap.size < (X0.alloc (.cells #[.int .i64 im, .int .i64 rd, .bool rv] 44)).heap.size := by simp
        have hgw1 := hB0.size
        go_simp
        generalize X0.heap.size = gs at *
        generalize X0.alloc (.cells #[.int .i64 im, .int .i64 rd, .bool rv] 44) = X1 at *
        refine hK _ _ (HSG.out _ hB1) ?_
        clear hK K
        (try simp only [Act.put, List.setIfInBounds_toArray, List.set_cons_zero, List.set_cons_succ])
        refine tr_step rfl (by rfl) (fun K hK => ?_)
        have hB2 := BA hB1 (.cells #[] 44)
        have hrow2 := World.ownsRow_lit (base := w3.heap.size) (e := 44) (size := 3) X1 #[] 0 hB1.size (by unfold maxLen; omega) (by rfl)
        have hn2 : ∀ j u, ([.int .i64 im, .int .i64 rd, .bool rv] : List Value)[j]? = some u → (X1.alloc (.cells #[] 44)).cell? ((⟨gs, 0, none⟩ : Addr).add j) = some u := fun j u hj => cellB (hn1 j u hj) (newB X1 _)
        go_simp
        generalize X1.heap.size = gv at *
        generalize X1.alloc (.cells #[] 44) = X2 at *
        refine hK _ _ (HSG.out _ hB2) ?_
        clear hK K
        (try simp only [Act.put, List.setIfInBounds_toArray, List.set_cons_zero, List.set_cons_succ])
        refine tr_step rfl (by rfl) (fun K hK => ?_)
        refine wp_append_setts (.tmp 50) (.tmp 52) rfl w3.heap.size (.slice (some ⟨gv, 0, none⟩) 0 0) (by rfl) hrow2 h.sa h.ns h.scap ss (by rfl) (HST.out _ hB2) HNS.out (by omega) hB2.size ?_
        intro v1 X3 hrow3 hgr3
        have hB3 := hB2.grown hgr3 hB2.size (fun k hk => (hrow2.lt k hk).1)
        refine hK _ _ (HSG.out _ hB3) ?_
        clear hK K
        (try simp only [Act.put, List.setIfInBounds_toArray, List.set_cons_zero, List.set_cons_succ])
        have hn3 : ∀ j u, ([.int .i64 im, .int .i64 rd, .bool rv] : List Value)[j]? = some u → X3.cell? ((⟨gs, 0, none⟩ : Addr).add j) = some u := fun j u hj => hgr3.cell (hn2 j u hj) (by rw [add_block]; show some gs ≠ some gv; intro e; injection e with e; omega)
        refine tr_step rfl (by rfl) (fun K hK => ?_)
        refine wp_append_lies X3 (.tmp 53) (.tmp 55) 27 rfl w3.heap.size 44 i0 (.agg #[.int .i64 0, .int .i64 0, .bool false]) 3 24 Try.underlying27 hi9 hz0 hz1 hz2 rfl (by decide) v1 h.ns (ss.flatMap settV) (by rfl) hrow3 ⟨gs, 0, none⟩ 1 1 [.int .i64 im, .int .i64 rd, .bool rv] (by rfl) rfl hn3 (by intro u hu; simp at hu; rcases hu with rfl | rfl | rfl <;> rfl) (by omega) (by unfold maxLen; omega) (by omega) hB3.size _ rfl ?_
        intro gr cap X4 hrow4 hgr4 _ _
        have hB4 := hB3.grown hgr4 hB3.size (fun k hk => (hrow3.lt k hk).1)
        have hst4 : Setts X4 (some ⟨gr, 0, none⟩) (ss ++ [(im, rd, rv)]) := setts_row (base := w3.heap.size) (n := h.ns + 1) (cap := cap) (by rw [List.flatMap_append]; exact hrow4) (by simp [HNS.out]) HRS.out
        have hge4 := (hrow4.lt gr rfl).1
        refine hK _ _ (HSG.out _ hB4) ?_
        clear hK K
        (try simp only [Act.put, List.setIfInBounds_toArray, List.set_cons_zero, List.set_cons_succ])
        repeat (first | (refine tr_read rfl (by rfl) _ (fun w' hS => by (try dsimp only at hS); go_simp; (try with_reducible rfl)) ?_; (try simp only [Act.put, List.setIfInBounds_toArray, List.set_cons_zero, List.set_cons_succ])) | (refine tr_skip rfl (by rfl) ?_; (try simp only [Act.put, List.setIfInBounds_toArray, List.set_cons_zero, List.set_cons_succ])))
        refine tr_last rfl (by rfl) (by kernel_rfl) (fun K hK => ?_)
        obtain ⟨u6, q6, f6⟩ := (HSL.out _ hB4).get 6 (by omega)
        go_simp
        refine hK _ _ ?_
        clear hK K
        (try simp only [Act.put, List.setIfInBounds_toArray, List.set_cons_zero, List.set_cons_succ])
        show Exit.then _ _ Exit.normal _ _
        go_wp2_with fail
        go_meet
        exact ⟨rfl, some ⟨gr, 0, none⟩, cap, X4, rfl, hst4, fun b o e => by injection e with e; injection e with e; rw [← e]; exact hge4, hB4⟩

    case rest =>
      obtain ⟨rfl, sa, cap, X', hwc, hst4, hsb4, hb4⟩ := hcut
      have HX11b : Hid (Box7 wc g11 (partH h sa (h.ns + 1) cap)) := by show Box7 _ _ _; rw [hwc]; exact (HX11.out.grown7 hb4).put6 sa (h.ns + 1) cap
      have HX12b : Hid (Box7 wc g12 h) := by show Box7 _ _ _; rw [hwc]; exact (HX12.out.grown7 hb4).far6 (Ne.symm hne) _
      have HS4 : Hid (Setts wc sa (ss ++ [(im, rd, rv)])) := by show Setts _ _ _; rw [hwc]; exact setts_put6 hst4 (fun b o e => by have := hsb4 b o e; omega)
      have hw4 : Below w2.heap.size w2 wc := by rw [hwc]; exact BC (BT hb3 hb4) g11 6 hg11 _
      have HB4 := Lib.hid (HB2.out.grown hw4)
      have hB4 := BT hB2 hw4
      have hg12l : g12 < w3.heap.size := HX12.out.lt7
      obtain ⟨hsb, hg12n⟩ : (∀ b o, sa = some ⟨b, o, none⟩ → w3.heap.size ≤ b) ∧ g12 < w3.heap.size := ⟨hsb4, hg12l⟩
      clear hwc hst4 hsb4 hb4 HX11 HX12 HS2 HSG HST HSL HRS hB0 hi9 hz0 hz1 hz2 hrd HRD hb3 hg12l
      obtain ⟨w4, rfl⟩ : ∃ w4 : World, w4 = wc := ⟨_, rfl⟩
      obtain ⟨c0, c1, c2, c3, c4, c5, c6, hh⟩ := HB4.out
      obtain ⟨r0, r1, r2, r3, r4, r5⟩ := HR.out
      clear hh
      obtain ⟨lo, hlo⟩ : ∃ lo : Int, (if h.eLo + y % 3 < h.eHi then h.eLo + y % 3 else h.eHi) = lo := ⟨_, rfl⟩
      obtain ⟨sh, hsh⟩ : ∃ sh : Int, (if h.sLo < h.sHi - y / 3 then h.sHi - y / 3 else h.sLo) = sh := ⟨_, rfl⟩
      have HLS : Hid (h.eLo ≤ lo ∧ lo ≤ h.eHi ∧ h.sLo ≤ sh ∧ sh ≤ h.sHi) := by
        show _ ∧ _ ∧ _ ∧ _
        rw [← hlo, ← hsh]
        split <;> split <;> omega
      go_wp2_with fail
      refine (spanL_any _ _ _).mono ?_
      rintro e x1 ⟨rfl, hx1⟩
      have hX12 := HX12b.out.grown7 hx1
      obtain ⟨u1, p1, f1⟩ := hX12.slots.get 1 (by omega)
      obtain ⟨u2, p2, f2⟩ := hX12.slots.get 2 (by omega)
      have HX12c := Lib.hid (hX12.putE lo h.eHi)
      have HX11c := Lib.hid (((HX11b.out.grown7 hx1).far g12 1 hne (.int .i64 lo)).far g12 2 hne (.int .i64 h.eHi))
      have HS5 := Lib.hid (setts_far (setts_far (HS4.out.below (Nat.le_refl _) hx1) hsb g12 1 hg12n (.int .i64 lo)) hsb g12 2 hg12n (.int .i64 h.eHi))
      have hw5 : Below w2.heap.size w2 ((x1.setCell ⟨g12, 1, none⟩ (.int .i64 lo)).setCell ⟨g12, 2, none⟩ (.int .i64 h.eHi)) := BC (BC (BT hw4 hx1) g12 1 hg12 _) g12 2 hg12 _
      clear hX12 HX12b HX11b HS4 hw4 HB4 hx1 hB4 c0 c1 c2 c3 c4 c5 c6
      go_upto_region 6 with fail
      clear p1 f1 p2 f2
      generalize (x1.setCell ⟨g12, 1, none⟩ (.int .i64 lo)).setCell ⟨g12, 2, none⟩ (.int .i64 h.eHi) = w5 at HX12c HX11c HS5 hw5 ⊢
      obtain ⟨c0, c1, c2, c3, c4, c5, c6, hh⟩ := HB2.out.grown hw5
      clear hh
      go_wp2_with fail
      refine (spanL_any _ _ _).mono ?_
      rintro e x2 ⟨rfl, hx2⟩
      have hX12 := HX12c.out.grown7 hx2
      obtain ⟨u1, p1, f1⟩ := hX12.slots.get 4 (by omega)
      obtain ⟨u2, p2, f2⟩ := hX12.slots.get 5 (by omega)
      have HX12d := Lib.hid (hX12.putS h.sLo sh)
      have HX11d := Lib.hid (((HX11c.out.grown7 hx2).far g12 4 hne (.int .i64 h.sLo)).far g12 5 hne (.int .i64 sh))
      have HS6 := Lib.hid (setts_far (setts_far (HS5.out.below (Nat.le_refl _) hx2) hsb g12 4 hg12n (.int .i64 h.sLo)) hsb g12 5 hg12n (.int .i64 sh))
      have hw6 : Below w2.heap.size w2 ((x2.setCell ⟨g12, 4, none⟩ (.int .i64 h.sLo)).setCell ⟨g12, 5, none⟩ (.int .i64 sh)) := BC (BC (BT hw5 hx2) g12 4 hg12 _) g12 5 hg12 _
      clear hX12 HX12c HX11c HS5 hw5 hx2 c0 c1 c2 c3 c4 c5 c6 r0 r1 r2 r3 r4 r5
      go_upto_region 7 with fail
      clear p1 f1 p2 f2 hlo hsh
      generalize (x2.setCell ⟨g12, 4, none⟩ (.int .i64 h.sLo)).setCell ⟨g12, 5, none⟩ (.int .i64 sh) = w6 at HX12d HX11d HS6 hw6 ⊢
      have hv := HV.out
      obtain ⟨s1, s2, es, qs⟩ := reply_eq (sumA_sp h xs ss)
      obtain ⟨p1, p2, ep, qp⟩ := reply_eq (placeA_sp h xs ss a)
      obtain ⟨q1, q2, eq, qq⟩ := reply_eq (placeA_sp h xs ss b)
      obtain ⟨d1, d2, ed, qd⟩ := reply_eq (apartA_sp h xs ss a b)
      obtain ⟨o, qo, o0, o1, oeq⟩ := drop_rng hv
      have HN : Hid (ed = 0 → a ≠ b → ep = 0 ∧ eq = 0 ∧ withinB d1 d2 (q1 - p2) (q2 - p1) = true ∧ (-200000 ≤ p1 ∧ p1 ≤ 200000) ∧ (-200000 ≤ p2 ∧ p2 ≤ 200000) ∧ (-200000 ≤ q1 ∧ q1 ≤ 200000) ∧ (-200000 ≤ q2 ∧ q2 ≤ 200000)) := fun h1 h2 => by
        subst h1
        exact more_near hv qp qq qd h2
      have HSM : Hid (∀ Y, Below w6.heap.size w6 Y → BoxM Y B h xs ss) := fun Y hY => HB2.out.grown (BT hw6 hY)
      have HC18 : Hid (∀ Y, HasM Y h xs ss → Calls Try.prog 18 #[.agg #[.slice h.a h.n h.cap, .int .i64 h.eLo, .int .i64 h.eHi, .int .i64 h.images, .int .i64 h.sLo, .int .i64 h.sHi, .slice h.sa h.ns h.scap]] Y (Ret (.tuple #[.agg #[.int .i64 s1, .int .i64 s2], .int .i64 es]) Y)) := fun Y hY => by
        have := sum_any h xs ss Y hY
        rw [qs] at this; exact this
      have HC20 : Hid (∀ Y, HasM Y h xs ss → Calls Try.prog 20 #[.agg #[.slice h.a h.n h.cap, .int .i64 h.eLo, .int .i64 h.eHi, .int .i64 h.images, .int .i64 h.sLo, .int .i64 h.sHi, .slice h.sa h.ns h.scap], .int .i64 a] Y (Ret (.tuple #[.agg #[.int .i64 p1, .int .i64 p2], .int .i64 ep]) Y)) := fun Y hY => by
        have := place_any a h xs ss Y hY
        rw [qp] at this; exact this
      have HC20b : Hid (∀ Y, HasM Y h xs ss → Calls Try.prog 20 #[.agg #[.slice h.a h.n h.cap, .int .i64 h.eLo, .int .i64 h.eHi, .int .i64 h.images, .int .i64 h.sLo, .int .i64 h.sHi, .slice h.sa h.ns h.scap], .int .i64 b] Y (Ret (.tuple #[.agg #[.int .i64 q1, .int .i64 q2], .int .i64 eq]) Y)) := fun Y hY => by
        have := place_any b h xs ss Y hY
        rw [qq] at this; exact this
      have HC22 : Hid (∀ Y, HasM Y h xs ss → Calls Try.prog 22 #[.agg #[.slice h.a h.n h.cap, .int .i64 h.eLo, .int .i64 h.eHi, .int .i64 h.images, .int .i64 h.sLo, .int .i64 h.sHi, .slice h.sa h.ns h.scap], .int .i64 a, .int .i64 b] Y (Ret (.tuple #[.agg #[.int .i64 d1, .int .i64 d2], .int .i64 ed]) Y)) := fun Y hY => by
        have := apart_any a b h xs ss Y hY
        rw [qd] at this; exact this
      have HC26 : Hid (∀ Y, HasM Y h xs ss → Calls Try.prog 26 #[.agg #[.slice h.a h.n h.cap, .int .i64 h.eLo, .int .i64 h.eHi, .int .i64 h.images, .int .i64 h.sLo, .int .i64 h.sHi, .slice h.sa h.ns h.scap]] Y (Ret (.tuple #[.int .i64 o, .int .i64 0]) Y)) := fun Y hY => by
        have := drop_any h xs ss Y hY
        rw [qo] at this; exact this
      have QS := Lib.hid qs
      have QP := Lib.hid qp
      have QD := Lib.hid qd
      have QO := Lib.hid oeq
      have hw2w := hB2
      have HW6 := Lib.hid (BT hB2 hw6)
      clear qs qp qq qd qo oeq hv HB2 hB2 hB3
      obtain ⟨c0, c1, c2, c3, c4, c5, c6, hh⟩ := HSM.out w6 (Below.refl _ _)
      go_wp2_with fail
      refine (HC18.out _ hh).mono ?_
      rintro e x3 ⟨rfl, hx3⟩
      clear c0 c1 c2 c3 c4 c5 c6 hh HC18
      have hZ := BT hx3 (newB x3 (.cells #[.int .i64 s1, .int .i64 s2] 24))
      have HT14 := Lib.hid (show Two x3.heap.size s1 s2 (x3.alloc (.cells #[.int .i64 s1, .int .i64 s2] 24)) from two_newT x3 s1 s2 24)
      go_upto_region 9 with fail
      generalize x3.heap.size = g14 at HT14 ⊢
      generalize x3.alloc (.cells #[.int .i64 s1, .int .i64 s2] 24) = Y1 at hZ HT14 ⊢
      have hY1 := hZ
      clear hZ
      obtain ⟨c0, c1, c2, c3, c4, c5, c6, hh⟩ := HSM.out _ hY1
      go_wp2_with fail
      refine (HC20.out _ hh).mono ?_
      rintro e x4 ⟨rfl, hx4⟩
      clear c0 c1 c2 c3 c4 c5 c6 hh HC20
      have hZ := BT hx4 (newB x4 (.cells #[.int .i64 p1, .int .i64 p2] 24))
      have HT16 := Lib.hid (show Two x4.heap.size p1 p2 (x4.alloc (.cells #[.int .i64 p1, .int .i64 p2] 24)) from two_newT x4 p1 p2 24)
      go_upto_region 10 with fail
      generalize x4.heap.size = g16 at HT16 ⊢
      generalize x4.alloc (.cells #[.int .i64 p1, .int .i64 p2] 24) = Y2 at hZ HT16 ⊢
      have hY2 := BT hY1 hZ
      have HT14b := Lib.hid (HT14.out.grown hZ)
      clear hZ hx3 hx4 hY1 HT14
      obtain ⟨c0, c1, c2, c3, c4, c5, c6, hh⟩ := HSM.out _ hY2
      go_wp2_with fail
      refine (HC20b.out _ hh).mono ?_
      rintro e x5 ⟨rfl, hx5⟩
      clear c0 c1 c2 c3 c4 c5 c6 hh HC20b
      have hZ := BT hx5 (newB x5 (.cells #[.int .i64 q1, .int .i64 q2] 24))
      have HT18 := Lib.hid (show Two x5.heap.size q1 q2 (x5.alloc (.cells #[.int .i64 q1, .int .i64 q2] 24)) from two_newT x5 q1 q2 24)
      go_upto_region 11 with fail
      generalize x5.heap.size = g18 at HT18 ⊢
      generalize x5.alloc (.cells #[.int .i64 q1, .int .i64 q2] 24) = Y3 at hZ HT18 ⊢
      have hY3 := BT hY2 hZ
      have HT14c := Lib.hid (HT14b.out.grown hZ)
      have HT16c := Lib.hid (HT16.out.grown hZ)
      clear hZ hx5 hY2 HT14b HT16
      obtain ⟨c0, c1, c2, c3, c4, c5, c6, hh⟩ := HSM.out _ hY3
      go_wp2_with fail
      refine (HC22.out _ hh).mono ?_
      rintro e x6 ⟨rfl, hx6⟩
      clear c0 c1 c2 c3 c4 c5 c6 hh HC22
      have hZ := BT hx6 (newB x6 (.cells #[.int .i64 d1, .int .i64 d2] 24))
      have HT20 := Lib.hid (show Two x6.heap.size d1 d2 (x6.alloc (.cells #[.int .i64 d1, .int .i64 d2] 24)) from two_newT x6 d1 d2 24)
      go_upto_region 12 with fail
      generalize x6.heap.size = g20 at HT20 ⊢
      generalize x6.alloc (.cells #[.int .i64 d1, .int .i64 d2] 24) = Y4 at hZ HT20 ⊢
      have hY4 := BT hY3 hZ
      have HT14d := Lib.hid (HT14c.out.grown hZ)
      have HT16d := Lib.hid (HT16c.out.grown hZ)
      have HT18d := Lib.hid (HT18.out.grown hZ)
      clear hZ hx6 hY3 HT14c HT16c HT18
      obtain ⟨c0, c1, c2, c3, c4, c5, c6, hh⟩ := HSM.out _ hY4
      go_wp2_with fail
      refine (HC26.out _ hh).mono ?_
      rintro e x7 ⟨rfl, hx7⟩
      clear c0 c1 c2 c3 c4 c5 c6 hh HC26 HSM
      go_upto_region 13 with fail
      have hY5 := BT hY4 hx7
      have HTT : Hid (∀ Y, Below x7.heap.size x7 Y → (Two g14 s1 s2 Y ∧ Two g16 p1 p2 Y ∧ Two g18 q1 q2 Y ∧ Two g20 d1 d2 Y)) := fun Y hY =>
        ⟨HT14d.out.grown (BT hx7 hY), HT16d.out.grown (BT hx7 hY), HT18d.out.grown (BT hx7 hY), HT20.out.grown (BT hx7 hY)⟩
      clear HT14d HT16d HT18d HT20 hx7 hY4
      have HTS : Hid (∀ X, Below x7.heap.size x7 X → X.cell? ⟨g16, 0, none⟩ = some (.int .i64 p1) ∧ X.cell? ⟨g16, 1, none⟩ = some (.int .i64 p2) ∧ X.cell? ⟨g18, 0, none⟩ = some (.int .i64 q1) ∧ X.cell? ⟨g18, 1, none⟩ = some (.int .i64 q2) ∧ X.cell? ⟨g20, 0, none⟩ = some (.int .i64 d1) ∧ X.cell? ⟨g20, 1, none⟩ = some (.int .i64 d2)) := fun X hX => by
        obtain ⟨_, e1, e2, e3⟩ := HTT.out X hX
        exact ⟨e1.1, e1.2, e2.1, e2.2, e3.1, e3.2⟩
      have HB0 := Below.drew (Below.refl x7.heap.size x7)
      go_cut [158] from 58 to 157 (fun v X => v = .bool false ∧ Below x7.heap.size x7 X)
      case first =>
        by_cases hk : ed = 0
        case neg =>
          have hkb := beq_eq_false_iff_ne.2 hk
          refine wp_region_seq [(0, true), (1, true), (2, true), (3, true), (4, true), (5, true), (6, true), (7, true), (8, true), (9, true), (10, true), (11, true), (12, true), (13, true), (14, true), (15, true), (16, true), (17, true), (18, true), (19, true), (20, true), (21, true), (22, true), (23, true), (24, true), (25, true), (26, true), (27, true), (28, true), (29, true), (30, false), (31, false), (32, true), (33, true), (34, true), (35, true)] (fun w' => w'.cell? ⟨g16, 0, none⟩ = some (.int .i64 p1) ∧ w'.cell? ⟨g16, 1, none⟩ = some (.int .i64 p2) ∧ w'.cell? ⟨g18, 0, none⟩ = some (.int .i64 q1) ∧ w'.cell? ⟨g18, 1, none⟩ = some (.int .i64 q2) ∧ w'.cell? ⟨g20, 0, none⟩ = some (.int .i64 d1) ∧ w'.cell? ⟨g20, 1, none⟩ = some (.int .i64 d2)) (by kernel_rfl) (by kernel_rfl) (fun _ _ d _ _ h => by cases d <;> exact h) (HTS.out _ HB0) ?_
          repeat (first | (refine seq_read rfl (by rfl) _ (fun w' hS => by (try dsimp only at hS); go_simp; (try with_reducible rfl)) ?_; (try simp only [Act.put, List.setIfInBounds_toArray, List.set_cons_zero, List.set_cons_succ])) | (refine seq_skip rfl (by rfl) ?_; (try simp only [Act.put, List.setIfInBounds_toArray, List.set_cons_zero, List.set_cons_succ])))
          refine seq_end ?_
          show Exit.then _ _ Exit.normal _ _
          go_wp2_with fail
          go_meet
          exact ⟨rfl, HB0⟩
        by_cases hab : a = b
        case pos =>
          subst hab
          subst hk
          refine wp_region_seq [(0, true), (1, true), (2, true), (3, true), (4, true), (5, true), (6, true), (7, true), (8, true), (9, true), (10, true), (11, true), (12, true), (13, true), (14, true), (15, true), (16, true), (17, true), (18, true), (19, true), (20, true), (21, true), (22, true), (23, true), (24, true), (25, true), (26, true), (27, true), (28, true), (29, true), (30, false), (31, false), (32, true), (33, true), (34, true), (35, true)] (fun w' => w'.cell? ⟨g16, 0, none⟩ = some (.int .i64 p1) ∧ w'.cell? ⟨g16, 1, none⟩ = some (.int .i64 p2) ∧ w'.cell? ⟨g18, 0, none⟩ = some (.int .i64 q1) ∧ w'.cell? ⟨g18, 1, none⟩ = some (.int .i64 q2) ∧ w'.cell? ⟨g20, 0, none⟩ = some (.int .i64 d1) ∧ w'.cell? ⟨g20, 1, none⟩ = some (.int .i64 d2)) (by kernel_rfl) (by kernel_rfl) (fun _ _ d _ _ h => by cases d <;> exact h) (HTS.out _ HB0) ?_
          repeat (first | (refine seq_read rfl (by rfl) _ (fun w' hS => by (try dsimp only at hS); go_simp; (try with_reducible rfl)) ?_; (try simp only [Act.put, List.setIfInBounds_toArray, List.set_cons_zero, List.set_cons_succ])) | (refine seq_skip rfl (by rfl) ?_; (try simp only [Act.put, List.setIfInBounds_toArray, List.set_cons_zero, List.set_cons_succ])))
          refine seq_end ?_
          show Exit.then _ _ Exit.normal _ _
          go_wp2_with fail
          go_meet
          exact ⟨rfl, HB0⟩
        obtain ⟨z1, z2, z3, ⟨z4, z5⟩, ⟨z6, z7⟩, ⟨z8, z9⟩, z10, z11⟩ := HN.out hk hab
        subst hk
        subst z1
        subst z2
        have habb : (a == b) = false := beq_eq_false_iff_ne.2 hab
        have habn : (a != b) = true := by simp [hab]
        have habd : decide (a = b) = false := decide_eq_false hab
        have k1 : IntKind.i64.wrap (q1 - p2) = q1 - p2 := IntWalk.i64_in _ (by omega)
        have k2 : IntKind.i64.wrap (q2 - p1) = q2 - p1 := IntWalk.i64_in _ (by omega)
        have HIN : Hid (∀ Y, Calls Try.prog 42 #[.agg #[.int .i64 d1, .int .i64 d2], .agg #[.int .i64 (q1 - p2), .int .i64 (q2 - p1)]] Y (Ret (.bool true) Y)) := fun Y => by
          have := in42_any d1 d2 (q1 - p2) (q2 - p1) Y
          rw [z3] at this; exact this
        clear z3 z4 z5 z6 z7 z8 z9 z10 z11
        clear HN
        refine wp_region_seq [(0, true), (1, true), (2, true), (3, true), (4, true), (5, true), (6, true), (7, true), (8, true), (9, true), (10, true), (11, true), (12, true), (13, true), (14, true), (15, true), (16, true), (17, true), (18, true), (19, true), (20, true), (21, true), (22, true), (23, true), (24, true), (25, true), (26, true), (27, true), (28, true), (29, true), (30, false), (31, false), (32, true), (33, true), (34, true), (35, true)] (fun w' => w'.cell? ⟨g16, 0, none⟩ = some (.int .i64 p1) ∧ w'.cell? ⟨g16, 1, none⟩ = some (.int .i64 p2) ∧ w'.cell? ⟨g18, 0, none⟩ = some (.int .i64 q1) ∧ w'.cell? ⟨g18, 1, none⟩ = some (.int .i64 q2) ∧ w'.cell? ⟨g20, 0, none⟩ = some (.int .i64 d1) ∧ w'.cell? ⟨g20, 1, none⟩ = some (.int .i64 d2)) (by kernel_rfl) (by kernel_rfl) (fun _ _ d _ _ h => by cases d <;> exact h) (HTS.out _ HB0) ?_
        generalize x7.drew = X0 at *
        repeat (first | (refine seq_read rfl (by rfl) _ (fun w' hS => by (try dsimp only at hS); go_simp; (try with_reducible rfl)) ?_; (try simp only [Act.put, List.setIfInBounds_toArray, List.set_cons_zero, List.set_cons_succ])) | (refine seq_skip rfl (by rfl) ?_; (try simp only [Act.put, List.setIfInBounds_toArray, List.set_cons_zero, List.set_cons_succ])))
        refine seq_do rfl (by rfl) (fun K hK => ?_)
        go_simp
        refine (spanL_any _ _ _).mono ?_
        rintro e xa ⟨rfl, hxa⟩
        have HB1 := BT HB0 hxa
        refine hK _ _ (HTS.out _ HB1) ?_
        clear hK K
        (try simp only [Act.put, List.setIfInBounds_toArray, List.set_cons_zero, List.set_cons_succ])
        refine seq_do rfl (by rfl) (fun K hK => ?_)
        go_simp
        refine (HIN.out _).mono ?_
        rintro e xb ⟨rfl, hxb⟩
        have HB2 := BT HB1 hxb
        refine hK _ _ (HTS.out _ HB2) ?_
        clear hK K
        (try simp only [Act.put, List.setIfInBounds_toArray, List.set_cons_zero, List.set_cons_succ])
        repeat (first | (refine seq_read rfl (by rfl) _ (fun w' hS => by (try dsimp only at hS); go_simp; (try with_reducible rfl)) ?_; (try simp only [Act.put, List.setIfInBounds_toArray, List.set_cons_zero, List.set_cons_succ])) | (refine seq_skip rfl (by rfl) ?_; (try simp only [Act.put, List.setIfInBounds_toArray, List.set_cons_zero, List.set_cons_succ])))
        refine seq_end ?_
        show Exit.then _ _ Exit.normal _ _
        go_wp2_with fail
        go_meet
        exact ⟨rfl, HB2⟩

      case rest =>
        obtain ⟨rfl, hb13⟩ := hcut
        obtain ⟨w8, rfl⟩ : ∃ w8 : World, w8 = wc := ⟨_, rfl⟩
        have hW8 := BT hY5 hb13
        have HTU : Hid (∀ Y, Below w8.heap.size w8 Y → (Two g14 s1 s2 Y ∧ Two g16 p1 p2 Y ∧ Two g20 d1 d2 Y)) := fun Y hY => by
          obtain ⟨e1, e2, _, e4⟩ := HTT.out Y (BT hb13 hY)
          exact ⟨e1, e2, e4⟩
        clear HTT HN HB0 hb13 hY5
        have hX11 := HX11d.out.grown7 hW8
        have hX12 := HX12d.out.grown7 hW8
        obtain ⟨i0, i1, i2, i3, i4, i5, i6⟩ := hX11.box
        obtain ⟨j0, j1, j2, j3, j4, j5, j6⟩ := hX12.box
        dsimp only [partH] at i0 i1 i2 i3 i4 i5 i6
        dsimp only at j0 j1 j2 j3 j4 j5 j6
        clear hX11 hX12 HX11d HX12d
        have hbsl := hbs
        go_upto_region 16 with fail
        clear i0 i1 i2 i3 i4 i5 i6 j0 j1 j2 j3 j4 j5 j6
        have hZ := newB w8 (.cells #[.slice h.a h.n h.cap, .int .i64 h.eLo, .int .i64 h.eHi, .int .i64 h.images, .int .i64 h.sLo, .int .i64 h.sHi, .slice sa (h.ns + 1) cap, .slice h.a h.n h.cap, .int .i64 lo, .int .i64 h.eHi, .int .i64 h.images, .int .i64 h.sLo, .int .i64 sh, .slice h.sa h.ns h.scap] 29)
        have hcx := z_cells w8 h sa cap lo sh
        generalize w8.heap.size = gL at hcx ⊢
        generalize w8.alloc (.cells #[.slice h.a h.n h.cap, .int .i64 h.eLo, .int .i64 h.eHi, .int .i64 h.images, .int .i64 h.sLo, .int .i64 h.sHi, .slice sa (h.ns + 1) cap, .slice h.a h.n h.cap, .int .i64 lo, .int .i64 h.eHi, .int .i64 h.images, .int .i64 h.sLo, .int .i64 sh, .slice h.sa h.ns h.scap] 29) = WL at hZ hcx ⊢
        have hWL := BT hW8 hZ
        have HCX := Lib.hid hcx
        have HTV : Hid (∀ Y, Below WL.heap.size WL Y → (Two g14 s1 s2 Y ∧ Two g16 p1 p2 Y ∧ Two g20 d1 d2 Y)) := fun Y hY => HTU.out Y (BT hZ hY)
        have HMZ : Hid (∀ k : Nat, k < 2 → ∀ Y, Below WL.heap.size WL Y → HasM Y (zX h sa cap lo sh k) xs (zS ss (im, rd, rv) k)) := fun k hk Y hY =>
          z_has (HM.out.below (Nat.le_refl _) (BT HW6.out (BT hWL hY))) (HS6.out.below (Nat.le_refl _) (BT hWL hY)) h12 k
        have HTE := Lib.hid (z_more (s := (im, rd, rv)) (sa := sa) (cap := cap) HV.out HLS.out)
        have HZL := Lib.hid (z_len (ss := ss) (im, rd, rv) (show ss.length < 12 by rw [HNS.out]; exact h12))
        have HWB := Lib.hid (BT HW6.out hWL)
        have hnx : xs.length ≤ 100 := by have := (valid_has HV.out).1; omega
        clear hcx hZ hW8 HTU HS6 HM HW6 HV hWL hw6 HLS HNS HR
        obtain ⟨wo, rfl⟩ : ∃ wo : World, wo = WL := ⟨_, rfl⟩
        go_loopw [163] (fun i wr => ∃ k : Nat, k ≤ 2 ∧ i = .int .i64 k ∧ Below wo.heap.size wo wr) (fun i _ => 2 - (intOf i).toNat)
        case atStart => exact ⟨0, by omega, rfl, Below.refl _ _⟩
        case round =>
          obtain ⟨k, hk, rfl, hB⟩ := hrel
          have hk0 : (0 : Int) ≤ (k : Int) := by omega
          have hBw := BT HWB.out hB
          by_cases hlt : k < 2
          · obtain ⟨c0, c1, c2, c3, c4, c5, c6⟩ := HCX.out k hlt wr hB
            have HMZk := Lib.hid (HMZ.out k hlt)
            have HTEk := Lib.hid (HTE.out k)
            have HZLk := Lib.hid (HZL.out k)
            generalize zX h sa cap lo sh k = z at HMZk HTEk c0 c1 c2 c3 c4 c5 c6 ⊢
            generalize zS ss (im, rd, rv) k = zs at HMZk HTEk HZLk ⊢
            go_upto_region 18 with fail
            clear c0 c1 c2 c3 c4 c5 c6
            have hZ := newB wr (.cells #[.slice z.a z.n z.cap, .int .i64 z.eLo, .int .i64 z.eHi, .int .i64 z.images, .int .i64 z.sLo, .int .i64 z.sHi, .slice z.sa z.ns z.scap] 29)
            have hbz := boxC_new wr z
            generalize wr.heap.size = g25 at hbz ⊢
            generalize wr.alloc (.cells #[.slice z.a z.n z.cap, .int .i64 z.eLo, .int .i64 z.eHi, .int .i64 z.images, .int .i64 z.sLo, .int .i64 z.sHi, .slice z.sa z.ns z.scap] 29) = R0 at hZ hbz ⊢
            have hR0 := BT hB hZ
            have HBZ : Hid (∀ Y, Below R0.heap.size R0 Y → BoxC Y g25 z ∧ HasM Y z xs zs) := fun Y hY => ⟨hbz.grown hY, HMZk.out Y (BT hR0 hY)⟩
            have HTW : Hid (∀ Y, Below R0.heap.size R0 Y → (Two g14 s1 s2 Y ∧ Two g16 p1 p2 Y ∧ Two g20 d1 d2 Y)) := fun Y hY => HTV.out Y (BT hR0 hY)
            have hzl := HZLk.out
            clear hZ hbz HMZk HZLk
            obtain ⟨⟨c0, c1, c2, c3, c4, c5, c6⟩, hh⟩ := HBZ.out R0 (Below.refl _ _)
            have hme := measureR_any z xs zs R0 hh hnx (by omega)
            unfold Hd.val at hme
            clear hh
            go_wp2_with fail
            refine hme.mono ?_
            rintro e R1 ⟨rfl, hr1⟩
            clear hme c0 c1 c2 c3 c4 c5 c6
            cases hvz : validH z xs zs
            case false =>
              go_wp2
              go_roundw
              case rel => exact ⟨k + 1, by omega, by go_num, BT hR0 hr1⟩
              case measure => simp [intOf]; omega
            case true =>
              obtain ⟨ht2, hpo⟩ := HTEk.out hvz
              obtain ⟨n, qn, n0, n1, neq⟩ := drop_rng hvz
              rw [neq, QO.out] at hpo
              obtain ⟨t1, t2, jt, r1, r2, lr, u1, u2, vu, qt, qr, qu, hfact⟩ := more_facts ht2 QS.out QP.out QD.out
              have HF := Lib.hid hfact
              have hC26 := drop_any z xs zs R1 (HBZ.out R1 hr1).2
              have HC18 : Hid (∀ Y, Below R0.heap.size R0 Y → Calls Try.prog 18 #[.agg #[.slice z.a z.n z.cap, .int .i64 z.eLo, .int .i64 z.eHi, .int .i64 z.images, .int .i64 z.sLo, .int .i64 z.sHi, .slice z.sa z.ns z.scap]] Y (Ret (.tuple #[.agg #[.int .i64 t1, .int .i64 t2], .int .i64 jt]) Y)) := fun Y hY => by
                have := sum_any z xs zs Y (HBZ.out Y hY).2
                rw [qt] at this; exact this
              have HC20 : Hid (∀ Y, Below R0.heap.size R0 Y → Calls Try.prog 20 #[.agg #[.slice z.a z.n z.cap, .int .i64 z.eLo, .int .i64 z.eHi, .int .i64 z.images, .int .i64 z.sLo, .int .i64 z.sHi, .slice z.sa z.ns z.scap], .int .i64 a] Y (Ret (.tuple #[.agg #[.int .i64 r1, .int .i64 r2], .int .i64 lr]) Y)) := fun Y hY => by
                have := place_any a z xs zs Y (HBZ.out Y hY).2
                rw [qr] at this; exact this
              have HC22 : Hid (∀ Y, Below R0.heap.size R0 Y → Calls Try.prog 22 #[.agg #[.slice z.a z.n z.cap, .int .i64 z.eLo, .int .i64 z.eHi, .int .i64 z.images, .int .i64 z.sLo, .int .i64 z.sHi, .slice z.sa z.ns z.scap], .int .i64 a, .int .i64 b] Y (Ret (.tuple #[.agg #[.int .i64 u1, .int .i64 u2], .int .i64 vu]) Y)) := fun Y hY => by
                have := apart_any a b z xs zs Y (HBZ.out Y hY).2
                rw [qu] at this; exact this
              rw [qn] at hC26
              unfold Hd.val at hC26
              have HSN := Lib.hid (size_any n ⟨n0, n1⟩)
              have HSO := Lib.hid (size_any o ⟨o0, o1⟩)
              generalize popc n = pn at hpo HSN ⊢
              generalize popc o = po at hpo HSO ⊢
              clear ht2 neq qt qr qu qn hfact HTEk
              obtain ⟨⟨c0, c1, c2, c3, c4, c5, c6⟩, hh⟩ := HBZ.out R1 hr1
              clear hh
              go_wp2_with fail
              refine hC26.mono ?_
              rintro e R2 ⟨rfl, hr2⟩
              have hR2 := BT hr1 hr2
              clear hC26 c0 c1 c2 c3 c4 c5 c6 hr1 hr2
              go_wp2_with fail
              refine (HSN.out _).mono ?_
              rintro e R3 ⟨rfl, hr3⟩
              go_wp2_with fail
              refine (HSO.out _).mono ?_
              rintro e R4 ⟨rfl, hr4⟩
              have hR4 := BT (BT hR2 hr3) hr4
              clear HSN HSO hr3 hr4 hR2
              have hpn : ¬ pn < po := by omega
              obtain ⟨⟨c0, c1, c2, c3, c4, c5, c6⟩, hh⟩ := HBZ.out R4 hR4
              clear hh
              go_wp2_with fail
              refine (HC18.out R4 hR4).mono ?_
              rintro e R5 ⟨rfl, hr5⟩
              clear HC18 c0 c1 c2 c3 c4 c5 c6
              have hZ := BT hr5 (newB R5 (.cells #[.int .i64 t1, .int .i64 t2] 24))
              have HT28 := Lib.hid (show Two R5.heap.size t1 t2 (R5.alloc (.cells #[.int .i64 t1, .int .i64 t2] 24)) from two_newT R5 t1 t2 24)
              go_upto_region 23 with fail
              generalize R5.heap.size = g28 at HT28 ⊢
              generalize R5.alloc (.cells #[.int .i64 t1, .int .i64 t2] 24) = R6 at hZ HT28 ⊢
              have hR6 := BT hR4 hZ
              clear hZ hr5 hR4
              rcases HF.out with rfl | ⟨rfl, rfl, hw1, hf1, hf2⟩
              · clear HF
                go_wp2
                go_roundw
                case rel => exact ⟨k + 1, by omega, by go_num, BT hR0 hR6⟩
                case measure => simp [intOf]; omega
              · have HF1 := Lib.hid hf1
                have HF2 := Lib.hid hf2
                have HI1 : Hid (∀ Y, Calls Try.prog 42 #[.agg #[.int .i64 t1, .int .i64 t2], .agg #[.int .i64 s1, .int .i64 s2]] Y (Ret (.bool true) Y)) := fun Y => by
                  have := in42_any t1 t2 s1 s2 Y
                  rw [hw1] at this; exact this
                clear HF hf1 hf2 hw1
                obtain ⟨⟨c0, c1, c2, c3, c4, c5, c6⟩, hh⟩ := HBZ.out R6 hR6
                clear hh
                go_wp2_with fail
                refine (HC20.out R6 hR6).mono ?_
                rintro e R7 ⟨rfl, hr7⟩
                clear HC20 c0 c1 c2 c3 c4 c5 c6
                have hZ := BT hr7 (newB R7 (.cells #[.int .i64 r1, .int .i64 r2] 24))
                have HT30 := Lib.hid (show Two R7.heap.size r1 r2 (R7.alloc (.cells #[.int .i64 r1, .int .i64 r2] 24)) from two_newT R7 r1 r2 24)
                go_upto_region 27 with fail
                generalize R7.heap.size = g30 at HT30 ⊢
                generalize R7.alloc (.cells #[.int .i64 r1, .int .i64 r2] 24) = R8 at hZ HT30 ⊢
                have hR8 := BT hR6 hZ
                have HT28b := Lib.hid (HT28.out.grown hZ)
                clear hZ hr7 hR6 HT28
                obtain ⟨⟨c0, c1, c2, c3, c4, c5, c6⟩, hh⟩ := HBZ.out R8 hR8
                clear hh
                go_wp2_with fail
                refine (HC22.out R8 hR8).mono ?_
                rintro e R9 ⟨rfl, hr9⟩
                clear HC22 c0 c1 c2 c3 c4 c5 c6
                have hZ := BT hr9 (newB R9 (.cells #[.int .i64 u1, .int .i64 u2] 24))
                have HT32 := Lib.hid (show Two R9.heap.size u1 u2 (R9.alloc (.cells #[.int .i64 u1, .int .i64 u2] 24)) from two_newT R9 u1 u2 24)
                go_upto_region 28 with fail
                generalize R9.heap.size = g32 at HT32 ⊢
                generalize R9.alloc (.cells #[.int .i64 u1, .int .i64 u2] 24) = Ra at hZ HT32 ⊢
                have hRa := BT hR8 hZ
                have HT : Hid (∀ Y, Below Ra.heap.size Ra Y → ((Two g14 s1 s2 Y ∧ Two g16 p1 p2 Y ∧ Two g20 d1 d2 Y) ∧ Two g28 t1 t2 Y ∧ Two g30 r1 r2 Y ∧ Two g32 u1 u2 Y)) := fun Y hY =>
                  ⟨HTW.out Y (BT hRa hY), HT28b.out.grown (BT hZ hY), HT30.out.grown (BT hZ hY), HT32.out.grown hY⟩
                clear hZ hr9 hR8 HT28b HT30 HT32 HTW HBZ
                obtain ⟨⟨⟨x0, x1⟩, _⟩, ⟨y0, y1⟩, _⟩ := HT.out Ra (Below.refl _ _)
                go_wp2_with fail
                refine (HI1.out _).mono ?_
                rintro e Rb ⟨rfl, hrb⟩
                clear x0 x1 y0 y1 HI1
                by_cases hp : ep = 0
                · subst hp
                  obtain ⟨rfl, hw2⟩ := HF1.out rfl
                  have HI2 : Hid (∀ Y, Calls Try.prog 42 #[.agg #[.int .i64 r1, .int .i64 r2], .agg #[.int .i64 p1, .int .i64 p2]] Y (Ret (.bool true) Y)) := fun Y => by
                    have := in42_any r1 r2 p1 p2 Y
                    rw [hw2] at this; exact this
                  clear hw2
                  obtain ⟨⟨_, ⟨x0, x1⟩, _⟩, _, ⟨y0, y1⟩, _⟩ := HT.out Rb hrb
                  go_wp2_with fail
                  refine (HI2.out _).mono ?_
                  rintro e Rc ⟨rfl, hrc⟩
                  have hqc := BT hrb hrc
                  clear x0 x1 y0 y1 HI2
                  by_cases hda : ed = 0
                  · skip
                    subst hda
                    obtain ⟨rfl, hw3⟩ := HF2.out rfl
                    have HI3 : Hid (∀ Y, Calls Try.prog 42 #[.agg #[.int .i64 u1, .int .i64 u2], .agg #[.int .i64 d1, .int .i64 d2]] Y (Ret (.bool true) Y)) := fun Y => by
                      have := in42_any u1 u2 d1 d2 Y
                      rw [hw3] at this; exact this
                    clear HF1 HF2 hw3
                    obtain ⟨⟨_, _, ⟨x0, x1⟩⟩, _, _, ⟨y0, y1⟩⟩ := HT.out Rc hqc
                    go_wp2_with fail
                    refine (HI3.out _).mono ?_
                    rintro e Rz ⟨rfl, hrz⟩
                    have hq := BT hqc hrz
                    clear x0 x1 y0 y1 HI3
                    go_wp2
                    go_roundw
                    case rel => exact ⟨k + 1, by omega, by go_num, BT hR0 (BT hRa hq)⟩
                    case measure => simp [intOf]; omega
                  · skip
                    have hdba := beq_eq_false_iff_ne.2 hda
                    clear HF1 HF2
                    go_wp2
                    go_roundw
                    case rel => exact ⟨k + 1, by omega, by go_num, BT hR0 (BT hRa hqc)⟩
                    case measure => simp [intOf]; omega
                · have hpb := beq_eq_false_iff_ne.2 hp
                  by_cases hdb : ed = 0
                  · skip
                    subst hdb
                    obtain ⟨rfl, hw3⟩ := HF2.out rfl
                    have HI3 : Hid (∀ Y, Calls Try.prog 42 #[.agg #[.int .i64 u1, .int .i64 u2], .agg #[.int .i64 d1, .int .i64 d2]] Y (Ret (.bool true) Y)) := fun Y => by
                      have := in42_any u1 u2 d1 d2 Y
                      rw [hw3] at this; exact this
                    clear HF1 HF2 hw3
                    obtain ⟨⟨_, _, ⟨x0, x1⟩⟩, _, _, ⟨y0, y1⟩⟩ := HT.out Rb hrb
                    go_wp2_with fail
                    refine (HI3.out _).mono ?_
                    rintro e Rz ⟨rfl, hrz⟩
                    have hq := BT hrb hrz
                    clear x0 x1 y0 y1 HI3
                    go_wp2
                    go_roundw
                    case rel => exact ⟨k + 1, by omega, by go_num, BT hR0 (BT hRa hq)⟩
                    case measure => simp [intOf]; omega
                  · skip
                    have hdbb := beq_eq_false_iff_ne.2 hdb
                    clear HF1 HF2
                    go_wp2
                    go_roundw
                    case rel => exact ⟨k + 1, by omega, by go_num, BT hR0 (BT hRa hrb)⟩
                    case measure => simp [intOf]; omega

          · obtain rfl : k = 2 := by omega
            go_wp2_with fail
            refine (alive_any _).mono ?_
            rintro e xe ⟨rfl, hxe⟩
            go_wp2
            go_ret
            exact ⟨rfl, BT hBw hxe⟩
end Go.Proofs.Ytmfbkgdlfackcaa
