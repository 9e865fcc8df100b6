/- Plate: PlateTrue's walk. -/
import Derived.Test.YtdkegkacpdkjgaaTruB
import Derived.Test.YtdkegkacpdkjgaaTruA
import Derived.Test.YtdkegkacpdkjgaaPrk
import Derived.Test.YtdkegkacpdkjgaaPsr
namespace Go.Proofs.Ytdkegkacpdkjgaa
open Go.RowKit Go.Maps

theorem insT_any (n lo hi : Int) (w : World) (h1 : lo ≤ n) (h2 : n ≤ hi) : Calls Try.prog 20 #[.int .i64 n, .agg #[.int .i64 lo, .int .i64 hi]] w (Ret (.bool true) w) := by
  have h := inside_any n lo hi w
  rw [decide_eq_true h1, decide_eq_true h2] at h
  exact h
theorem Spots.below {X X' : World} {a : Option Addr} {is : List (Int × Int)} (h : Spots X a is) (hb : Below X.heap.size X X') : Spots X' a is :=
  h.elim .inl fun ⟨g, h1, h2, h3⟩ => .inr ⟨g, h1, Nat.lt_of_lt_of_le h2 hb.size, fun k hk => ⟨cellB (h3 k hk).1 hb, cellB (h3 k hk).2 hb⟩⟩
theorem Spots.at {X : World} {a : Option Addr} {is : List (Int × Int)} (h : Spots X a is) {i : Nat} (hi : i < is.length) : ∃ g, a = some ⟨g, 0, none⟩ ∧ X.cell? ⟨g, i * 2, none⟩ = some (.int .i64 (is.getD i (0, 0)).1) ∧ X.cell? ⟨g, i * 2 + 1, none⟩ = some (.int .i64 (is.getD i (0, 0)).2) := by
  rcases h with h | ⟨g, h1, _, h3⟩
  · subst h; simp at hi
  · exact ⟨g, h1, h3 i hi⟩
set_option maxRecDepth 100000 in
set_option maxHeartbeats 16000000 in
theorem true_walk (a : Option Addr) (yn yc : Nat) (w : World) (hin : yn = 0 ∨ ∃ yb yo, a = some ⟨yb, yo, none⟩ ∧ yb < w.heap.size ∧ ∀ k, k < yn → ∃ v : Int, w.cell? ⟨yb, yo + k, none⟩ = some (.int .u16 v) ∧ 0 ≤ v ∧ v ≤ 65535) (hyn : yn ≤ 9223372036854775807) :
    Calls Try.prog 4 #[.slice a yn yc] w (Ret (.bool true) w) := by
  by_cases hy0 : yn = 0
  · subst hy0
    clear hin
    go_enter Try.func4, Try.ntmps4
    go_wp2_with fail
    refine (alive_any _).mono ?_
    rintro e wz ⟨rfl, hz⟩
    go_wp2_with fail
    go_ret
    exact ⟨rfl, hz⟩
  rcases hin with h | ⟨yb, yo, rfl, hyb, hel⟩
  · exact absurd h hy0
  have hyi : ¬ (yn : Int) = 0 := by omega
  have hyi2 : ((yn : Int) == 0) = false := by simpa using hyi
  have hyi3 : (yn == 0) = false := by simpa using hy0
  have HEL := Lib.hid hel
  clear hel
  go_enter Try.func4, Try.ntmps4
  go_wp2_with fail
  refine (draws_any yb yo yn yc w hyb HEL.out).mono ?_
  rintro e w1 ⟨gA, gY, rfl, hb1, hds, ⟨hA0, hA1⟩, ⟨hY0, hY1⟩, hAY⟩
  go_wp2_with fail
  refine (made_any gA gY yb yo yn yc w w1 hb1 hds hA0 hY0 ⟨hAY, by omega, by omega, hyn⟩ hyb).mono ?_
  rintro e w2 ⟨p, ss, sc, ⟨ce, cn⟩, is, ks, ia, ka, ic, kc, rfl, hBw, hm, ⟨hIs, hKs⟩, hT, ⟨hl2, hl3⟩, hsk⟩
  have HD := Lib.hid hb1
  clear hb1 hds hA0 hA1 hY0 hY1 hAY HEL hyi hyi2 hyi3 hyb hyn hy0 HD
  dsimp only
  have HTR := Lib.hid hT
  have hn10 := hT.n10
  obtain ⟨s0, s1, hsr, hs1, hs2⟩ := tru_scale hT
  have hcl := tru_clash hT
  have hdr := tru_drop hT
  have hze := tru_zero hT
  have HSK := Lib.hid hsk
  have HL := Lib.hid (And.intro hl2 hl3)
  clear hT hsk hl2 hl3
  obtain ⟨W0, hW0⟩ : ∃ X, (w2.alloc (.cells #[.int .i64 p.lo, .int .i64 p.hi, .slice p.a p.n p.cap] 29)).alloc (.cells #[.int .i64 ce, .int .i64 cn] 39) = X := ⟨_, rfl⟩
  have hb0 : Below w2.heap.size w2 W0 := by rw [← hW0]; exact BA (newB _ _) _
  have hQ : BoxP W0 w2.heap.size p := by rw [← hW0]; exact (boxP_new w2 p _).grown (newB _ _)
  have hC : Cel2 W0 (w2.heap.size + 1) ce cn := by rw [← hW0]; exact ⟨by simp [go_sem], by simp [go_sem]⟩
  have HT : Hid (((BoxP W0 w2.heap.size p ∧ PlAt p ss W0) ∧ Cel2 W0 (w2.heap.size + 1) ce cn) ∧ Spots W0 ia is ∧ Spots W0 ka ks) := ⟨⟨⟨hQ, hm.below hb0 (Nat.le_refl _)⟩, hC⟩, hIs.below hb0, hKs.below hb0⟩
  replace hBw := BT hBw hb0
  have hB : Below W0.heap.size W0 W0 := Below.refl _ _
  clear hQ hm hC hIs hKs hb0
  have HSC : Hid (∀ Y, Below W0.heap.size W0 Y → Calls Try.prog 14 #[.agg #[.int .i64 p.lo, .int .i64 p.hi, .slice p.a p.n p.cap]] Y (Ret (.tuple #[.agg #[.int .i64 s0, .int .i64 s1], .int .i64 0]) Y)) := fun Y hY => by
    have h0 := scale_any p ss Y (HT.out.1.1.2.below hY (Nat.le_refl _))
    rw [hsr] at h0
    exact h0
  have HCL : Hid (∀ Y, Below W0.heap.size W0 Y → Calls Try.prog 12 #[.agg #[.int .i64 p.lo, .int .i64 p.hi, .slice p.a p.n p.cap]] Y (Ret (.tuple #[.int .i64 0, .int .i64 0]) Y)) := fun Y hY => by
    have h0 := clash_any p ss Y (HT.out.1.1.2.below hY (Nat.le_refl _))
    rw [hcl] at h0
    exact h0
  have HDR : Hid (∀ Y, Below W0.heap.size W0 Y → Calls Try.prog 13 #[.agg #[.int .i64 p.lo, .int .i64 p.hi, .slice p.a p.n p.cap]] Y (Ret (.tuple #[.int .i64 0, .int .i64 0]) Y)) := fun Y hY => by
    have h0 := drop_any p ss Y (HT.out.1.1.2.below hY (Nat.le_refl _))
    rw [hdr] at h0
    exact h0
  clear hsr hcl hdr
  obtain ⟨p0, p1, p2⟩ := HT.out.1.1.1
  go_wp2_with fail
  clear p0 p1 p2 hW0
  refine (HSC.out W0 hB).mono ?_
  rintro e Y1 ⟨rfl, hx⟩
  replace hB := BT hB hx
  clear hx
  have hx : Below Y1.heap.size Y1 (Y1.alloc (.cells #[.int .i64 s0, .int .i64 s1] 23)) := newB _ _
  have xs : Worst (Y1.alloc (.cells #[.int .i64 s0, .int .i64 s1] 23)) Y1.heap.size s0 s1 := worst_new _ _ _ _
  replace hB := BT hB hx
  clear hx
  obtain ⟨p0, p1, p2⟩ := HT.out.1.1.1.grown (hB)
  go_wp2_with fail
  generalize Y1.alloc (.cells #[.int .i64 s0, .int .i64 s1] 23) = Z1 at *
  generalize Y1.heap.size = B1 at *
  clear p0 p1 p2
  refine (HCL.out Z1 hB).mono ?_
  rintro e Y2 ⟨rfl, hx⟩
  replace xs := xs.grown hx
  replace hB := BT hB hx
  clear hx
  obtain ⟨p0, p1, p2⟩ := HT.out.1.1.1.grown (hB)
  go_wp2_with fail
  clear p0 p1 p2
  refine (HDR.out Y2 hB).mono ?_
  rintro e Y3 ⟨rfl, hx⟩
  replace xs := xs.grown hx
  replace hB := BT hB hx
  clear hx
  obtain ⟨xsc, xsd, -, -⟩ := id xs
  go_wp2_with fail
  clear xsc xsd
  refine (insT_any sc s0 s1 Y3 hs1 hs2).mono ?_
  rintro e Y4 ⟨rfl, hx⟩
  replace xs := xs.grown hx
  replace hB := BT hB hx
  clear hx
  obtain ⟨p0, p1, p2⟩ := HT.out.1.1.1.grown (hB)
  go_wp2_with fail
  clear p0 p1 p2
  rcases hze with ⟨hk0, hz⟩ | ⟨hk1, z0, z1, z2, z3, hz, ⟨hz0, hz1⟩, hz2, hz3⟩
  · skip
    have hz2 : repB (zeroR p ss) = .tuple #[.agg #[.int .i64 0, .int .i64 0], .agg #[.int .i64 0, .int .i64 0], .int .i64 12] := by rw [hz]; rfl
    have HZE : Hid (∀ Y, Below W0.heap.size W0 Y → Calls Try.prog 21 #[.agg #[.int .i64 p.lo, .int .i64 p.hi, .slice p.a p.n p.cap]] Y (Ret (.tuple #[.agg #[.int .i64 0, .int .i64 0], .agg #[.int .i64 0, .int .i64 0], .int .i64 12]) Y)) := fun Y hY => by
      have h0 := zero_any p ss Y (HT.out.1.1.2.below hY (Nat.le_refl _))
      rw [hz2] at h0
      exact h0
    have HKN : Hid (∀ Y, Below W0.heap.size W0 Y → Calls Try.prog 22 #[.agg #[.int .i64 p.lo, .int .i64 p.hi, .slice p.a p.n p.cap]] Y (Ret (.int .i64 0) Y)) := fun Y hY => by
      have h0 := knownR_any p ss Y (HT.out.1.1.2.below hY (Nat.le_refl _)) (by omega)
      rw [hk0] at h0
      exact h0
    clear hz hz2 hk0
    refine (HZE.out Y4 hB).mono ?_
    rintro e Y5 ⟨rfl, hx⟩
    replace xs := xs.grown hx
    replace hB := BT hB hx
    clear hx
    have hx : Below Y5.heap.size Y5 ((Y5.alloc (.cells #[.int .i64 0, .int .i64 0] 23)).alloc (.cells #[.int .i64 0, .int .i64 0] 23)) := BA (newB _ _) _
    have xa : Worst ((Y5.alloc (.cells #[.int .i64 0, .int .i64 0] 23)).alloc (.cells #[.int .i64 0, .int .i64 0] 23)) Y5.heap.size 0 0 := (worst_new _ _ _ _).grown (newB _ _)
    have xb : Worst ((Y5.alloc (.cells #[.int .i64 0, .int .i64 0] 23)).alloc (.cells #[.int .i64 0, .int .i64 0] 23)) (Y5.heap.size + 1) 0 0 := by have := worst_new (Y5.alloc (.cells #[.int .i64 0, .int .i64 0] 23)) 0 0 23; rw [World.size_alloc] at this; exact this
    replace xs := xs.grown hx
    replace hB := BT hB hx
    clear hx
    obtain ⟨p0, p1, p2⟩ := HT.out.1.1.1.grown (hB)
    go_wp2_with fail
    generalize (Y5.alloc (.cells #[.int .i64 0, .int .i64 0] 23)).alloc (.cells #[.int .i64 0, .int .i64 0] 23) = Z5 at *
    generalize Y5.heap.size = B5 at *
    clear p0 p1 p2
    refine (HKN.out Z5 hB).mono ?_
    rintro e Y6 ⟨rfl, hx⟩
    replace xs := xs.grown hx
    replace xa := xa.grown hx
    replace xb := xb.grown hx
    replace hB := BT hB hx
    clear hx
    go_wp2_with fail
    refine (alive_any _).mono ?_
    rintro e wz ⟨rfl, hz⟩
    have hB := BT hB hz
    go_wp2_with fail
    go_ret
    exact ⟨rfl, hBw.trans (hB.mono hBw.size)⟩
  have hz4 : repB (zeroR p ss) = .tuple #[.agg #[.int .i64 z0, .int .i64 z1], .agg #[.int .i64 z2, .int .i64 z3], .int .i64 0] := by rw [hz]; rfl
  have HZE : Hid (∀ Y, Below W0.heap.size W0 Y → Calls Try.prog 21 #[.agg #[.int .i64 p.lo, .int .i64 p.hi, .slice p.a p.n p.cap]] Y (Ret (.tuple #[.agg #[.int .i64 z0, .int .i64 z1], .agg #[.int .i64 z2, .int .i64 z3], .int .i64 0]) Y)) := fun Y hY => by
    have h0 := zero_any p ss Y (HT.out.1.1.2.below hY (Nat.le_refl _))
    rw [hz4] at h0
    exact h0
  obtain ⟨kn, hkn⟩ : ∃ kn, knownTo ss p.n = kn := ⟨_, rfl⟩
  have HKN : Hid (∀ Y, Below W0.heap.size W0 Y → Calls Try.prog 22 #[.agg #[.int .i64 p.lo, .int .i64 p.hi, .slice p.a p.n p.cap]] Y (Ret (.int .i64 kn) Y)) := fun Y hY => by
    have h0 := knownR_any p ss Y (HT.out.1.1.2.below hY (Nat.le_refl _)) (by omega)
    rw [hkn] at h0
    exact h0
  have HK1 := Lib.hid hk1
  rw [hkn] at hk1
  have hkn2 : (kn == 0) = false := by simpa using hk1
  clear hz hz4 hkn
  refine (HZE.out Y4 hB).mono ?_
  rintro e Y5 ⟨rfl, hx⟩
  replace xs := xs.grown hx
  replace hB := BT hB hx
  clear hx
  have hx : Below Y5.heap.size Y5 ((Y5.alloc (.cells #[.int .i64 z0, .int .i64 z1] 23)).alloc (.cells #[.int .i64 z2, .int .i64 z3] 23)) := BA (newB _ _) _
  have xa : Worst ((Y5.alloc (.cells #[.int .i64 z0, .int .i64 z1] 23)).alloc (.cells #[.int .i64 z2, .int .i64 z3] 23)) Y5.heap.size z0 z1 := (worst_new _ _ _ _).grown (newB _ _)
  have xb : Worst ((Y5.alloc (.cells #[.int .i64 z0, .int .i64 z1] 23)).alloc (.cells #[.int .i64 z2, .int .i64 z3] 23)) (Y5.heap.size + 1) z2 z3 := by have := worst_new (Y5.alloc (.cells #[.int .i64 z0, .int .i64 z1] 23)) z2 z3 23; rw [World.size_alloc] at this; exact this
  replace xs := xs.grown hx
  replace hB := BT hB hx
  clear hx
  obtain ⟨p0, p1, p2⟩ := HT.out.1.1.1.grown (hB)
  go_wp2_with fail
  generalize (Y5.alloc (.cells #[.int .i64 z0, .int .i64 z1] 23)).alloc (.cells #[.int .i64 z2, .int .i64 z3] 23) = Z5 at *
  generalize Y5.heap.size = B5 at *
  clear p0 p1 p2
  refine (HKN.out Z5 hB).mono ?_
  rintro e Y6 ⟨rfl, hx⟩
  replace xs := xs.grown hx
  replace xa := xa.grown hx
  replace xb := xb.grown hx
  replace hB := BT hB hx
  clear hx
  obtain ⟨ca, cb⟩ := HT.out.1.2.grown hB
  obtain ⟨xac, xad, -, -⟩ := id xa
  obtain ⟨xbc, xbd, -, -⟩ := id xb
  go_wp2_with fail
  clear xac xad xbc xbd
  clear ca cb
  refine (insT_any ce z0 z1 Y6 hz0 hz1).mono ?_
  rintro e Y7 ⟨rfl, hx⟩
  replace xs := xs.grown hx
  replace xa := xa.grown hx
  replace xb := xb.grown hx
  replace hB := BT hB hx
  clear hx
  obtain ⟨ca, cb⟩ := HT.out.1.2.grown hB
  obtain ⟨xbc, xbd, -, -⟩ := id xb
  go_wp2_with fail
  clear xbc xbd
  clear ca cb
  refine (insT_any cn z2 z3 Y7 hz2 hz3).mono ?_
  rintro e Y8 ⟨rfl, hx⟩
  replace xs := xs.grown hx
  replace xa := xa.grown hx
  replace xb := xb.grown hx
  replace hB := BT hB hx
  clear hx
  go_upto_region 15 with fail
  obtain ⟨hl2, hl3⟩ := HL.out
  obtain ⟨i0, hi0, -⟩ := known_some (show p.n ≤ 12 by omega) HK1.out
  obtain ⟨gk, hgk, -, -⟩ := HT.out.2.2.at (i := i0) (by rw [hl3]; exact hi0)
  subst hgk
  obtain ⟨gi, hgi, -, -⟩ := HT.out.2.1.at (i := i0) (by rw [hl2]; exact hi0)
  subst hgi
  have HKS : Hid (∀ j Y, j < p.n → Below W0.heap.size W0 Y → Y.cell? ⟨gk, j * 2, none⟩ = some (.int .i64 (skP sc (dir (ce, cn)) (dir (is.getD j (0, 0))) false)) ∧ Y.cell? ⟨gk, j * 2 + 1, none⟩ = some (.int .i64 (skP sc (dir (ce, cn)) (dir (is.getD j (0, 0))) true))) := fun j Y hj hY => by
    obtain ⟨g', h1, h2, h3⟩ := HT.out.2.2.at (i := j) (by rw [hl3]; exact hj)
    injection h1 with h1; injection h1 with h1; subst h1
    rw [HSK.out j hj] at h2 h3
    exact ⟨cellB h2 hY, cellB h3 hY⟩
  have HIS : Hid (∀ j Y, j < p.n → Below W0.heap.size W0 Y → Y.cell? ⟨gi, j * 2, none⟩ = some (.int .i64 (dir (is.getD j (0, 0)) false)) ∧ Y.cell? ⟨gi, j * 2 + 1, none⟩ = some (.int .i64 (dir (is.getD j (0, 0)) true))) := fun j Y hj hY => by
    obtain ⟨g', h1, h2, h3⟩ := HT.out.2.1.at (i := j) (by rw [hl2]; exact hj)
    injection h1 with h1; injection h1 with h1; subst h1
    exact ⟨cellB h2 hY, cellB h3 hY⟩
  have HRG : Hid (∀ j, j < p.n → (-1048576 ≤ skP sc (dir (ce, cn)) (dir (is.getD j (0, 0))) false ∧ skP sc (dir (ce, cn)) (dir (is.getD j (0, 0))) false ≤ 1048576) ∧ -1048576 ≤ skP sc (dir (ce, cn)) (dir (is.getD j (0, 0))) true ∧ skP sc (dir (ce, cn)) (dir (is.getD j (0, 0))) true ≤ 1048576) := fun j hj => by
    have k0 := HTR.out.lo
    have k1 := HTR.out.l1
    have k2 := HTR.out.h1
    have k3 := HTR.out.hi
    exact ⟨tru_rng (HTR.out.st j hj) (by omega) (by omega) HTR.out.co false, tru_rng (HTR.out.st j hj) (by omega) (by omega) HTR.out.co true⟩
  clear hi0 hl2 hl3 HSC HCL HDR HZE HKN
  clear xs
  clear xa
  clear xb
  go_loopw [114] (fun i wz => ∃ j : Nat, j ≤ p.n ∧ i = .int .i64 j ∧ Below W0.heap.size W0 wz) (fun i _ => p.n - (intOf i).toNat)
  case atStart => exact ⟨0, by omega, rfl, hB⟩
  case round =>
    clear hB
    obtain ⟨j, hj, rfl, hB⟩ := hrel
    obtain ⟨wo, rfl⟩ : ∃ wo : World, wo = wr := ⟨_, rfl⟩
    have hj0 : (0 : Int) ≤ (j : Int) := by omega
    by_cases hlt : j < p.n
    · skip
      have hji : (j : Int) < (p.n : Int) := by omega
      obtain ⟨a0, a1, a2, a3, hst, ⟨hs0, hs1⟩, hs2, hs3⟩ := tru_star HTR.out HK1.out hlt
      obtain ⟨f0, f1, f2, f3, hfi, ⟨hf0, hf1⟩, hf2, hf3⟩ := tru_find HTR.out HK1.out hlt
      obtain ⟨ks0, ks1⟩ := HKS.out j wo hlt hB
      have hrg := HRG.out j hlt
      have HAP : Hid (∀ l, l < p.n → ∃ b0 b1 b2 b3, apartR p ss (j : Int) (l : Int) = .ok (.agg #[.int .i64 b0, .int .i64 b1, .int .i64 b2, .int .i64 b3]) ∧ (b0 ≤ skP sc (dir (ce, cn)) (dir (is.getD l (0, 0))) false - skP sc (dir (ce, cn)) (dir (is.getD j (0, 0))) false ∧ skP sc (dir (ce, cn)) (dir (is.getD l (0, 0))) false - skP sc (dir (ce, cn)) (dir (is.getD j (0, 0))) false ≤ b1) ∧ b2 ≤ skP sc (dir (ce, cn)) (dir (is.getD l (0, 0))) true - skP sc (dir (ce, cn)) (dir (is.getD j (0, 0))) true ∧ skP sc (dir (ce, cn)) (dir (is.getD l (0, 0))) true - skP sc (dir (ce, cn)) (dir (is.getD j (0, 0))) true ≤ b3) := fun l hl => tru_apart HTR.out hlt hl
      have HIJ : Hid (∀ Y, Below W0.heap.size W0 Y → Y.cell? ⟨gi, j * 2, none⟩ = some (.int .i64 (dir (is.getD j (0, 0)) false)) ∧ Y.cell? ⟨gi, j * 2 + 1, none⟩ = some (.int .i64 (dir (is.getD j (0, 0)) true))) := fun Y hY => HIS.out j Y hlt hY
      generalize skP sc (dir (ce, cn)) (dir (is.getD j (0, 0))) false = xe at *
      generalize skP sc (dir (ce, cn)) (dir (is.getD j (0, 0))) true = xn at *
      generalize dir (is.getD j (0, 0)) false = ie at *
      generalize dir (is.getD j (0, 0)) true = ino at *
      obtain ⟨⟨xe0, xe1⟩, xn0, xn1⟩ := hrg
      have hst4 : repB (starR p ss (j : Int)) = .tuple #[.agg #[.int .i64 a0, .int .i64 a1], .agg #[.int .i64 a2, .int .i64 a3], .int .i64 0] := by rw [hst]; rfl
      have hfi4 : repB (findR p ss xe xn) = .tuple #[.agg #[.int .i64 f0, .int .i64 f1], .agg #[.int .i64 f2, .int .i64 f3], .int .i64 0] := by rw [hfi]; rfl
      have HST : Hid (∀ Y, Below W0.heap.size W0 Y → Calls Try.prog 10 #[.agg #[.int .i64 p.lo, .int .i64 p.hi, .slice p.a p.n p.cap], .int .i64 (j : Int)] Y (Ret (.tuple #[.agg #[.int .i64 a0, .int .i64 a1], .agg #[.int .i64 a2, .int .i64 a3], .int .i64 0]) Y)) := fun Y hY => by
        have h0 := star_any (j : Int) p ss Y (HT.out.1.1.2.below hY (Nat.le_refl _))
        rw [hst4] at h0
        exact h0
      have HFI : Hid (∀ Y, Below W0.heap.size W0 Y → Calls Try.prog 23 #[.agg #[.int .i64 p.lo, .int .i64 p.hi, .slice p.a p.n p.cap], .int .i64 xe, .int .i64 xn] Y (Ret (.tuple #[.agg #[.int .i64 f0, .int .i64 f1], .agg #[.int .i64 f2, .int .i64 f3], .int .i64 0]) Y)) := fun Y hY => by
        have h0 := find2_any xe xn p ss Y (HT.out.1.1.2.below hY (Nat.le_refl _))
        rw [hfi4] at h0
        exact h0
      clear hst hfi hst4 hfi4
      have hx : Below wo.heap.size wo (wo.alloc (.cells #[.int .i64 xe, .int .i64 xn] 39)) := newB _ _
      have xp : Worst (wo.alloc (.cells #[.int .i64 xe, .int .i64 xn] 39)) wo.heap.size xe xn := worst_new _ _ _ _
      replace hB := BT hB hx
      clear hx
      obtain ⟨p0, p1, p2⟩ := HT.out.1.1.1.grown (hB)
      go_wp2_with fail
      clear ks0 ks1
      generalize wo.alloc (.cells #[.int .i64 xe, .int .i64 xn] 39) = Z50 at *
      generalize wo.heap.size = B50 at *
      clear p0 p1 p2
      refine (HST.out Z50 hB).mono ?_
      rintro e Y51 ⟨rfl, hx⟩
      replace xp := xp.grown hx
      replace hB := BT hB hx
      clear hx
      have hx : Below Y51.heap.size Y51 ((Y51.alloc (.cells #[.int .i64 a0, .int .i64 a1] 23)).alloc (.cells #[.int .i64 a2, .int .i64 a3] 23)) := BA (newB _ _) _
      have xu : Worst ((Y51.alloc (.cells #[.int .i64 a0, .int .i64 a1] 23)).alloc (.cells #[.int .i64 a2, .int .i64 a3] 23)) Y51.heap.size a0 a1 := (worst_new _ _ _ _).grown (newB _ _)
      have xv : Worst ((Y51.alloc (.cells #[.int .i64 a0, .int .i64 a1] 23)).alloc (.cells #[.int .i64 a2, .int .i64 a3] 23)) (Y51.heap.size + 1) a2 a3 := by have := worst_new (Y51.alloc (.cells #[.int .i64 a0, .int .i64 a1] 23)) a2 a3 23; rw [World.size_alloc] at this; exact this
      replace xp := xp.grown hx
      replace hB := BT hB hx
      clear hx
      obtain ⟨p0, p1, p2⟩ := HT.out.1.1.1.grown (hB)
      obtain ⟨xpc, xpd, -, -⟩ := id xp
      go_wp2_with fail
      clear xpc xpd
      generalize (Y51.alloc (.cells #[.int .i64 a0, .int .i64 a1] 23)).alloc (.cells #[.int .i64 a2, .int .i64 a3] 23) = Z51 at *
      generalize Y51.heap.size = B51 at *
      clear p0 p1 p2
      refine (HFI.out Z51 hB).mono ?_
      rintro e Y52 ⟨rfl, hx⟩
      replace xp := xp.grown hx
      replace xu := xu.grown hx
      replace xv := xv.grown hx
      replace hB := BT hB hx
      clear hx
      have hx : Below Y52.heap.size Y52 ((Y52.alloc (.cells #[.int .i64 f0, .int .i64 f1] 23)).alloc (.cells #[.int .i64 f2, .int .i64 f3] 23)) := BA (newB _ _) _
      have xm : Worst ((Y52.alloc (.cells #[.int .i64 f0, .int .i64 f1] 23)).alloc (.cells #[.int .i64 f2, .int .i64 f3] 23)) Y52.heap.size f0 f1 := (worst_new _ _ _ _).grown (newB _ _)
      have xo : Worst ((Y52.alloc (.cells #[.int .i64 f0, .int .i64 f1] 23)).alloc (.cells #[.int .i64 f2, .int .i64 f3] 23)) (Y52.heap.size + 1) f2 f3 := by have := worst_new (Y52.alloc (.cells #[.int .i64 f0, .int .i64 f1] 23)) f2 f3 23; rw [World.size_alloc] at this; exact this
      replace xp := xp.grown hx
      replace xu := xu.grown hx
      replace xv := xv.grown hx
      replace hB := BT hB hx
      clear hx
      go_upto_region 19 with fail
      generalize (Y52.alloc (.cells #[.int .i64 f0, .int .i64 f1] 23)).alloc (.cells #[.int .i64 f2, .int .i64 f3] 23) = Z52 at *
      generalize Y52.heap.size = B52 at *
      have hI : Hid (∀ V, Below Z52.heap.size Z52 V → V.cell? ⟨B50, 0, none⟩ = some (.int .i64 xe) ∧ V.cell? ⟨B50, 1, none⟩ = some (.int .i64 xn) ∧ V.cell? ⟨B51, 0, none⟩ = some (.int .i64 a0) ∧ V.cell? ⟨B51, 1, none⟩ = some (.int .i64 a1) ∧ V.cell? ⟨B51 + 1, 0, none⟩ = some (.int .i64 a2) ∧ V.cell? ⟨B51 + 1, 1, none⟩ = some (.int .i64 a3) ∧ V.cell? ⟨B52, 0, none⟩ = some (.int .i64 f0) ∧ V.cell? ⟨B52, 1, none⟩ = some (.int .i64 f1) ∧ V.cell? ⟨B52 + 1, 0, none⟩ = some (.int .i64 f2) ∧ V.cell? ⟨B52 + 1, 1, none⟩ = some (.int .i64 f3) ∧ V.cell? ⟨gi, j * 2, none⟩ = some (.int .i64 ie) ∧ V.cell? ⟨gi, j * 2 + 1, none⟩ = some (.int .i64 ino)) := fun V hV => ⟨(xp.grown hV).c0, (xp.grown hV).c1, (xu.grown hV).c0, (xu.grown hV).c1, (xv.grown hV).c0, (xv.grown hV).c1, (xm.grown hV).c0, (xm.grown hV).c1, (xo.grown hV).c0, (xo.grown hV).c1, (HIJ.out V (BT hB hV)).1, (HIJ.out V (BT hB hV)).2⟩
      have hb0 : Below Z52.heap.size Z52 Z52.drew := Below.drew (Below.refl _ Z52)
      go_cut [175] from 136 to 175 (fun ac X => ac = .bool false ∧ Below Z52.heap.size Z52 X)
      case first =>
        refine wp_region_seq [(0, true), (1, true), (2, true), (3, true), (4, true), (5, true), (6, false), (7, true), (8, true), (9, true), (10, true), (11, true), (12, true), (13, false), (14, true), (15, true), (16, true), (17, true), (18, true), (19, true), (20, true), (21, true), (22, true), (23, true), (24, true), (25, true), (26, true), (27, false), (28, true), (29, true), (30, true), (31, true), (32, true), (33, true), (34, true), (35, true), (36, true), (37, false), (38, true), (39, true)] (fun V => V.cell? ⟨B50, 0, none⟩ = some (.int .i64 xe) ∧ V.cell? ⟨B50, 1, none⟩ = some (.int .i64 xn) ∧ V.cell? ⟨B51, 0, none⟩ = some (.int .i64 a0) ∧ V.cell? ⟨B51, 1, none⟩ = some (.int .i64 a1) ∧ V.cell? ⟨B51 + 1, 0, none⟩ = some (.int .i64 a2) ∧ V.cell? ⟨B51 + 1, 1, none⟩ = some (.int .i64 a3) ∧ V.cell? ⟨B52, 0, none⟩ = some (.int .i64 f0) ∧ V.cell? ⟨B52, 1, none⟩ = some (.int .i64 f1) ∧ V.cell? ⟨B52 + 1, 0, none⟩ = some (.int .i64 f2) ∧ V.cell? ⟨B52 + 1, 1, none⟩ = some (.int .i64 f3) ∧ V.cell? ⟨gi, j * 2, none⟩ = some (.int .i64 ie) ∧ V.cell? ⟨gi, j * 2 + 1, none⟩ = some (.int .i64 ino)) (by kernel_rfl) (by kernel_rfl) (fun _ _ d _ _ h => by cases d <;> exact h) (hI.out _ hb0) ?_
        repeat (first | (refine seq_read rfl (by rfl) _ (fun w' hS => by (try dsimp only at hS); go_simp; (try with_reducible rfl)) ?_; (try simp only [Act.put, List.setIfInBounds_toArray, List.set_cons_zero, List.set_cons_succ])) | (refine seq_skip rfl (by rfl) ?_; (try simp only [Act.put, List.setIfInBounds_toArray, List.set_cons_zero, List.set_cons_succ])))
        refine seq_do rfl (by rfl) (fun K hK => ?_)
        go_simp
        refine (insT_any xe a0 a1 Z52.drew hs0 hs1).mono ?_
        rintro e L0 ⟨rfl, hL0⟩
        replace hL0 := BT hb0 hL0
        refine hK _ _ (hI.out _ hL0) ?_
        clear hK K
        (try simp only [Act.put, List.setIfInBounds_toArray, List.set_cons_zero, List.set_cons_succ])
        repeat (first | (refine seq_read rfl (by rfl) _ (fun w' hS => by (try dsimp only at hS); go_simp; (try with_reducible rfl)) ?_; (try simp only [Act.put, List.setIfInBounds_toArray, List.set_cons_zero, List.set_cons_succ])) | (refine seq_skip rfl (by rfl) ?_; (try simp only [Act.put, List.setIfInBounds_toArray, List.set_cons_zero, List.set_cons_succ])))
        refine seq_do rfl (by rfl) (fun K hK => ?_)
        go_simp
        refine (insT_any xn a2 a3 L0 hs2 hs3).mono ?_
        rintro e L1 ⟨rfl, hL1⟩
        replace hL1 := BT hL0 hL1
        refine hK _ _ (hI.out _ hL1) ?_
        clear hK K
        (try simp only [Act.put, List.setIfInBounds_toArray, List.set_cons_zero, List.set_cons_succ])
        repeat (first | (refine seq_read rfl (by rfl) _ (fun w' hS => by (try dsimp only at hS); go_simp; (try with_reducible rfl)) ?_; (try simp only [Act.put, List.setIfInBounds_toArray, List.set_cons_zero, List.set_cons_succ])) | (refine seq_skip rfl (by rfl) ?_; (try simp only [Act.put, List.setIfInBounds_toArray, List.set_cons_zero, List.set_cons_succ])))
        refine seq_do rfl (by rfl) (fun K hK => ?_)
        go_simp
        refine (insT_any ie f0 f1 L1 hf0 hf1).mono ?_
        rintro e L2 ⟨rfl, hL2⟩
        replace hL2 := BT hL1 hL2
        refine hK _ _ (hI.out _ hL2) ?_
        clear hK K
        (try simp only [Act.put, List.setIfInBounds_toArray, List.set_cons_zero, List.set_cons_succ])
        repeat (first | (refine seq_read rfl (by rfl) _ (fun w' hS => by (try dsimp only at hS); go_simp; (try with_reducible rfl)) ?_; (try simp only [Act.put, List.setIfInBounds_toArray, List.set_cons_zero, List.set_cons_succ])) | (refine seq_skip rfl (by rfl) ?_; (try simp only [Act.put, List.setIfInBounds_toArray, List.set_cons_zero, List.set_cons_succ])))
        refine seq_do rfl (by rfl) (fun K hK => ?_)
        go_simp
        refine (insT_any ino f2 f3 L2 hf2 hf3).mono ?_
        rintro e L3 ⟨rfl, hL3⟩
        replace hL3 := BT hL2 hL3
        refine hK _ _ (hI.out _ hL3) ?_
        clear hK K
        (try simp only [Act.put, List.setIfInBounds_toArray, List.set_cons_zero, List.set_cons_succ])
        repeat (first | (refine seq_read rfl (by rfl) _ (fun w' hS => by (try dsimp only at hS); go_simp; (try with_reducible rfl)) ?_; (try simp only [Act.put, List.setIfInBounds_toArray, List.set_cons_zero, List.set_cons_succ])) | (refine seq_skip rfl (by rfl) ?_; (try simp only [Act.put, List.setIfInBounds_toArray, List.set_cons_zero, List.set_cons_succ])))
        apply seq_end
        first | show Exit.then _ _ Exit.normal _ _ | skip
        go_wp2_with fail
        go_meet
        exact ⟨rfl, hL3⟩
      case rest =>
        obtain ⟨rfl, hbc⟩ := hcut
        obtain ⟨R1, rfl⟩ : ∃ R1 : World, R1 = wc := ⟨_, rfl⟩
        clear hI hb0
        replace xp := xp.grown hbc
        replace xu := xu.grown hbc
        replace xv := xv.grown hbc
        replace xm := xm.grown hbc
        replace xo := xo.grown hbc
        replace hB := BT hB hbc
        clear hbc
        clear xu
        clear xv
        clear xm
        clear xo
        clear HST HFI hs0 hs1 hs2 hs3 hf0 hf1 hf2 hf3 HIJ
        go_upto_region 22 with fail
        have hBi : Below R1.heap.size R1 R1 := Below.refl _ _
        go_loopw [178] (fun i wz => ∃ l : Nat, l ≤ p.n ∧ i = .int .i64 l ∧ Below R1.heap.size R1 wz) (fun i _ => p.n - (intOf i).toNat)
        case atStart => exact ⟨0, by omega, rfl, hBi⟩
        case round =>
          clear hBi
          obtain ⟨l, hl, rfl, hBi⟩ := hrel
          obtain ⟨wi, rfl⟩ : ∃ wi : World, wi = wr := ⟨_, rfl⟩
          have hl0 : (0 : Int) ≤ (l : Int) := by omega
          replace hB := BT hB hBi
          replace xp := xp.grown hBi
          by_cases hll : l < p.n
          · skip
            have hli : (l : Int) < (p.n : Int) := by omega
            obtain ⟨b0, b1, b2, b3, hap, ⟨hp0, hp1⟩, hp2, hp3⟩ := HAP.out l hll
            obtain ⟨ks0, ks1⟩ := HKS.out l wi hll hB
            have hrg := HRG.out l hll
            generalize skP sc (dir (ce, cn)) (dir (is.getD l (0, 0))) false = ye at *
            generalize skP sc (dir (ce, cn)) (dir (is.getD l (0, 0))) true = yn2 at *
            obtain ⟨⟨ye0, ye1⟩, yn0, yn1⟩ := hrg
            have hap4 : repB (apartR p ss (j : Int) (l : Int)) = .tuple #[.agg #[.int .i64 b0, .int .i64 b1], .agg #[.int .i64 b2, .int .i64 b3], .int .i64 0] := by rw [hap]; rfl
            have HA : Hid (∀ Y, Below W0.heap.size W0 Y → Calls Try.prog 24 #[.agg #[.int .i64 p.lo, .int .i64 p.hi, .slice p.a p.n p.cap], .int .i64 (j : Int), .int .i64 (l : Int)] Y (Ret (.tuple #[.agg #[.int .i64 b0, .int .i64 b1], .agg #[.int .i64 b2, .int .i64 b3], .int .i64 0]) Y)) := fun Y hY => by
              have h0 := apart2_any (j : Int) (l : Int) p ss Y (HT.out.1.1.2.below hY (Nat.le_refl _))
              rw [hap4] at h0
              exact h0
            clear hap hap4 HAP
            have hx : Below wi.heap.size wi (wi.alloc (.cells #[.int .i64 ye, .int .i64 yn2] 39)) := newB _ _
            have xy : Worst (wi.alloc (.cells #[.int .i64 ye, .int .i64 yn2] 39)) wi.heap.size ye yn2 := worst_new _ _ _ _
            replace xp := xp.grown hx
            replace hBi := BT hBi hx
            replace hB := BT hB hx
            clear hx
            obtain ⟨p0, p1, p2⟩ := HT.out.1.1.1.grown (hB)
            go_wp2_with fail
            clear ks0 ks1
            generalize wi.alloc (.cells #[.int .i64 ye, .int .i64 yn2] 39) = Z80 at *
            generalize wi.heap.size = B80 at *
            clear p0 p1 p2
            refine (HA.out Z80 hB).mono ?_
            rintro e Y81 ⟨rfl, hx⟩
            replace hBi := BT hBi hx
            replace xp := xp.grown hx
            replace xy := xy.grown hx
            replace hB := BT hB hx
            clear hx
            have hx : Below Y81.heap.size Y81 ((Y81.alloc (.cells #[.int .i64 b0, .int .i64 b1] 23)).alloc (.cells #[.int .i64 b2, .int .i64 b3] 23)) := BA (newB _ _) _
            have xr : Worst ((Y81.alloc (.cells #[.int .i64 b0, .int .i64 b1] 23)).alloc (.cells #[.int .i64 b2, .int .i64 b3] 23)) Y81.heap.size b0 b1 := (worst_new _ _ _ _).grown (newB _ _)
            have xt : Worst ((Y81.alloc (.cells #[.int .i64 b0, .int .i64 b1] 23)).alloc (.cells #[.int .i64 b2, .int .i64 b3] 23)) (Y81.heap.size + 1) b2 b3 := by have := worst_new (Y81.alloc (.cells #[.int .i64 b0, .int .i64 b1] 23)) b2 b3 23; rw [World.size_alloc] at this; exact this
            replace xp := xp.grown hx
            replace xy := xy.grown hx
            replace hBi := BT hBi hx
            replace hB := BT hB hx
            clear hx
            obtain ⟨xyc, xyd, -, -⟩ := id xy
            obtain ⟨xpc, xpd, -, -⟩ := id xp
            obtain ⟨xrc, xrd, -, -⟩ := id xr
            obtain ⟨xtc, xtd, -, -⟩ := id xt
            go_wp2_with fail
            clear xyc xyd xpc xpd xrc xrd xtc xtd
            generalize (Y81.alloc (.cells #[.int .i64 b0, .int .i64 b1] 23)).alloc (.cells #[.int .i64 b2, .int .i64 b3] 23) = Z81 at *
            generalize Y81.heap.size = B81 at *
            refine (insT_any (ye - xe) b0 b1 Z81 hp0 hp1).mono ?_
            rintro e Y82 ⟨rfl, hx⟩
            replace hBi := BT hBi hx
            replace xp := xp.grown hx
            replace xy := xy.grown hx
            replace xr := xr.grown hx
            replace xt := xt.grown hx
            replace hB := BT hB hx
            clear hx
            obtain ⟨xyc, xyd, -, -⟩ := id xy
            obtain ⟨xpc, xpd, -, -⟩ := id xp
            obtain ⟨xtc, xtd, -, -⟩ := id xt
            go_wp2_with fail
            clear xyc xyd xpc xpd xtc xtd
            refine (insT_any (yn2 - xn) b2 b3 Y82 hp2 hp3).mono ?_
            rintro e Y83 ⟨rfl, hx⟩
            replace hBi := BT hBi hx
            replace xp := xp.grown hx
            replace xy := xy.grown hx
            replace xr := xr.grown hx
            replace xt := xt.grown hx
            replace hB := BT hB hx
            clear hx
            go_wp2_with fail
            go_roundw
            case rel => exact ⟨l + 1, by omega, by go_num, hBi⟩
            case measure => simp [intOf]; omega
          · obtain rfl : l = p.n := by omega
            go_wp2_with fail
            go_roundw
            case rel => exact ⟨j + 1, by omega, by go_num, hB⟩
            case measure => simp [intOf]; omega
    · obtain rfl : j = p.n := by omega
      go_wp2_with fail
      refine (alive_any _).mono ?_
      rintro e wz ⟨rfl, hz⟩
      have hB := BT hB hz
      go_wp2_with fail
      go_ret
      exact ⟨rfl, hBw.trans (hB.mono hBw.size)⟩
end Go.Proofs.Ytdkegkacpdkjgaa
