/- Plate: PlateFinds' walk. -/
import Derived.Test.YtdkegkacpdkjgaaGreatZrB
import Derived.Test.YtdkegkacpdkjgaaGreatPpa
import Derived.Test.YtdkegkacpdkjgaaGreatPpp
namespace Go.Proofs.YtdkegkacpdkjgaaGreat
open Go.RowKit Go.Maps

/-- How wide a star is, by its answer. -/
theorem star_at {p : Pl} {ss : List St} (hv : plB p ss = true) (h0 : trA p ss ≠ []) (h1 : knownTo ss p.n ≠ 0) {k : Nat} (hk : k < p.n) : starR p ss (k : Int) = starV p ss k := by
  unfold starR tellK
  rw [if_pos hv, if_pos ⟨by omega, by omega⟩, if_neg h0, if_neg h1]
  rfl
theorem starV_ok {p : Pl} {ss : List St} (ok : PlOk p ss) (h0 : trA p ss ≠ []) {k : Nat} (hk : k < p.n) : ∃ a b c d : Int, starV p ss k = .ok (.agg #[.int .i64 a, .int .i64 b, .int .i64 c, .int .i64 d]) ∧ a ≤ b ∧ c ≤ d ∧ (-200000000 ≤ a ∧ b ≤ 200000000) ∧ -200000000 ≤ c ∧ d ≤ 200000000 := by
  obtain ⟨y, ys, hx⟩ : ∃ y ys, trA p ss = y :: ys := by
    cases h : trA p ss with
    | nil => exact absurd h h0
    | cons y ys => exact ⟨y, ys, rfl⟩
  have hy : y ∈ trA p ss := by rw [hx]; exact List.mem_cons_self
  have hne := fun d => pl_ne ok hy hk d
  have k0 := (kepL_of (starF ss k false) (trA p ss)).all y hy (hne false)
  have k1 := (kepL_of (starF ss k true) (trA p ss)).all y hy (hne true)
  have hb : Bnd 200000000 (starV p ss k) := along_bnd (f := starF ss k) (xs := trA p ss) fun d x hx => by
    have t := trL_ok ok hx
    have := pl_rng (ok.st k (by rw [ok.nl]; exact hk) d) (sc := x.sc) (by have := t.s0; omega) t.s1 (t.lo d) (t.hi d)
    unfold starF
    exact ⟨by omega, by omega⟩
  have hne0 := hne false
  have hne1 := hne true
  have e : starV p ss k = .ok (.agg #[.int .i64 (kepL (starF ss k false) (trA p ss)).1, .int .i64 (kepL (starF ss k false) (trA p ss)).2.1, .int .i64 (kepL (starF ss k true) (trA p ss)).1, .int .i64 (kepL (starF ss k true) (trA p ss)).2.1]) := by
    unfold starV alongR
    rw [if_pos k0.1, if_pos k1.1]
  have hb' := hb _ e
  have b0 := hb' 0 (by decide)
  have b1 := hb' 1 (by decide)
  have b2 := hb' 2 (by decide)
  have b3 := hb' 3 (by decide)
  refine ⟨_, _, _, _, e, ?_, ?_, ⟨b0.1, b1.2⟩, b2.1, b3.2⟩
  · exact Int.le_trans k0.2.1 (Int.le_trans hne0 k0.2.2)
  · exact Int.le_trans k1.2.1 (Int.le_trans hne1 k1.2.2)
theorem wid_of {a b c d : Int} (h1 : -200000000 ≤ a ∧ b ≤ 200000000) (h2 : -200000000 ≤ c ∧ d ≤ 200000000) (h3 : a ≤ b) (h4 : c ≤ d) : widV (.agg #[.int .i64 a, .int .i64 b, .int .i64 c, .int .i64 d]) = b - a + (d - c) := by
  show IntKind.i64.wrap (wrap64 (b - a) + wrap64 (d - c)) = _
  have e1 : wrap64 (b - a) = b - a := by unfold wrap64; omega
  have e2 : wrap64 (d - c) = d - c := by unfold wrap64; omega
  rw [e1, e2]
  exact IntWalk.i64_in _ (by omega)
/-- The worst of the first ones. -/
theorem poor_to {p : Pl} {ss : List St} (ok : PlOk p ss) (h0 : trA p ss ≠ []) : ∀ {k : Nat}, k ≤ p.n → ∃ s x : Int, poorTo p ss k = .ok (s, x) ∧ 0 ≤ x ∧
    (∀ i, i < k → ∀ v, starV p ss i = .ok v → widV v ≤ x ∧ (widV v = x → s ≤ i)) ∧ ((s = 0 ∧ x = 0) ∨ ∃ j : Nat, s = j ∧ j < k ∧ ∃ v, starV p ss j = .ok v ∧ widV v = x)
  | 0, _ => ⟨0, 0, rfl, by omega, fun i hi => by omega, .inl ⟨rfl, rfl⟩⟩
  | k + 1, hk => by
    obtain ⟨s, x, e, hx, h1, h2⟩ := poor_to ok h0 (k := k) (by omega)
    obtain ⟨a, b, c, d, ev, l1, l2, l3, l4⟩ := starV_ok ok h0 (k := k) (by omega)
    have ew := wid_of l3 l4 l1 l2
    rw [poorTo, e, ev]
    dsimp only
    generalize hw : widV (.agg #[.int .i64 a, .int .i64 b, .int .i64 c, .int .i64 d]) = W at *
    by_cases hlt : x < W
    · rw [if_pos hlt]
      refine ⟨k, W, rfl, by omega, fun i hi v hv => ?_, .inr ⟨k, rfl, by omega, _, ev, hw⟩⟩
      by_cases he : i = k
      · subst he
        rw [ev] at hv
        injection hv with hv
        subst hv
        rw [hw]; exact ⟨Int.le_refl _, fun _ => Int.le_refl _⟩
      · have := (h1 i (by omega) v hv).1
        exact ⟨by omega, fun h => by omega⟩
    · rw [if_neg hlt]
      refine ⟨s, x, rfl, hx, fun i hi v hv => ?_, ?_⟩
      · by_cases he : i = k
        · subst he
          rw [ev] at hv
          injection hv with hv
          subst hv
          rw [hw]
          refine ⟨by omega, fun h => ?_⟩
          rcases h2 with h2 | ⟨j, h2, h3, _⟩
          · omega
          · omega
        · exact h1 i (by omega) v hv
      · rcases h2 with h2 | ⟨j, h2, h3, h4⟩
        · exact .inl h2
        · exact .inr ⟨j, h2, by omega, h4⟩
/-- What Poor answers: an error that each star has, or the worst one. -/
theorem poor_facts {p : Pl} {ss : List St} (hn : ss.length = p.n) (hv : plB p ss = true) : (∃ c, c ≠ 0 ∧ poorR p ss = .error c ∧ ∀ k, k < p.n → starR p ss (k : Int) = .error c) ∨
    ∃ s x : Int, poorR p ss = .ok (.agg #[.int .i64 s, .int .i64 x]) ∧ (0 ≤ s ∧ s < p.n) ∧ ∀ k, k < p.n → ∃ a b c d : Int, starR p ss (k : Int) = .ok (.agg #[.int .i64 a, .int .i64 b, .int .i64 c, .int .i64 d]) ∧ (-200000000 ≤ a ∧ b ≤ 200000000) ∧ (-200000000 ≤ c ∧ d ≤ 200000000) ∧ a ≤ b ∧ c ≤ d ∧
      b - a + (d - c) ≤ x ∧ (b - a + (d - c) = x → s ≤ k) ∧ ((k : Int) = s → b - a + (d - c) = x) := by
  have ok := plOk' hn hv
  have h12 : p.n ≤ 12 := by have := ok.n10; omega
  by_cases h0 : trA p ss = []
  · exact .inl ⟨10, by decide, by unfold poorR; rw [if_pos hv, if_pos h0], fun k hk => by unfold starR tellK; rw [if_pos hv, if_pos ⟨by omega, by omega⟩, if_pos h0]⟩
  by_cases h1 : knownTo ss p.n = 0
  · exact .inl ⟨12, by decide, by unfold poorR; rw [if_pos hv, if_neg h0, if_pos h1], fun k hk => by unfold starR tellK; rw [if_pos hv, if_pos ⟨by omega, by omega⟩, if_neg h0, if_pos h1]⟩
  obtain ⟨i0, hi0, _⟩ := known_some h12 h1
  obtain ⟨s, x, e, hx, h2, h3⟩ := poor_to ok h0 (k := p.n) (Nat.le_refl _)
  right
  have hs : 0 ≤ s ∧ s < p.n ∧ ∀ v, starV p ss s.toNat = .ok v → widV v = x := by
    rcases h3 with ⟨rfl, rfl⟩ | ⟨j, rfl, hj, v, hv1, hv2⟩
    · refine ⟨by omega, by omega, fun v hv => ?_⟩
      obtain ⟨a, b, c, d, ev, l1, l2, l3, l4⟩ := starV_ok ok h0 (k := 0) (by omega)
      have ew := wid_of l3 l4 l1 l2
      have hle := (h2 0 (by omega) v hv).1
      rw [show (0 : Int).toNat = 0 from rfl, ev] at hv
      injection hv with hv
      subst hv
      rw [ew] at hle ⊢
      omega
    · refine ⟨by omega, by omega, fun v' hv' => ?_⟩
      rw [show ((j : Int)).toNat = j by omega, hv1] at hv'
      injection hv' with hv'
      subst hv'
      exact hv2
  refine ⟨s, x, by unfold poorR poorV; rw [if_pos hv, if_neg h0, if_neg h1, e], ⟨hs.1, hs.2.1⟩, fun k hk => ?_⟩
  obtain ⟨a, b, c, d, ev, l1, l2, l3, l4⟩ := starV_ok ok h0 hk
  have ew := wid_of l3 l4 l1 l2
  have hk2 := h2 k hk _ ev
  rw [ew] at hk2
  refine ⟨a, b, c, d, by rw [star_at hv h0 h1 hk, ev], l3, l4, l1, l2, hk2.1, hk2.2, fun hks => ?_⟩
  have := hs.2.2 _ (by rw [← hks, show ((k : Int)).toNat = k by omega]; exact ev)
  rw [ew] at this; exact this
end Go.Proofs.YtdkegkacpdkjgaaGreat

namespace Go.Proofs.YtdkegkacpdkjgaaGreat
open Go.RowKit Go.Maps

theorem partTo_get (ss : List St) (set : Int) : ∀ k i, i < ss.length → (partTo ss set k).getD i default = if i < k then { ss.getD i default with k := bitP set i } else ss.getD i default
  | 0, i, _ => by rw [partTo, if_neg (by omega)]
  | k + 1, i, hi => by
    have ih := partTo_get ss set k i hi
    have hl := partTo_len ss set k
    rw [partTo]
    by_cases he : i = k
    · subst he
      rw [if_neg (by omega)] at ih
      rw [if_pos (by omega), ih]
      simp [List.getD, hl, hi]
    · have : ((partTo ss set k).set k { (partTo ss set k).getD k default with k := bitP set k }).getD i default = (partTo ss set k).getD i default := by
        rw [List.getD_eq_getElem?_getD, List.getElem?_set_ne (by omega), ← List.getD_eq_getElem?_getD]
      rw [this, ih]
      by_cases h : i < k
      · rw [if_pos h, if_pos (by omega)]
      · rw [if_neg h, if_neg (by omega)]
theorem and_one {x : Nat} (h : x < 4096) : bits .and .i64 (x : Int) 1 = ((x % 2 : Nat) : Int) := by
  unfold bits
  dsimp only
  have h1 : (BitVec.ofInt IntKind.i64.bits (1 : Int)).toNat = 1 := bv_nat (n := 1) (by omega)
  rw [BitVec.toNat_and, bv_nat (by omega), h1, Nat.and_one_is_mod, i64_of_nat (by omega)]
theorem bitP_nat {v : Nat} (hv : v < 4096) (i : Nat) : bitP (v : Int) i = v.testBit i := by
  have hle : v / 2 ^ i ≤ v := Nat.div_le_self _ _
  have e : (v : Int) / 2 ^ i = ((v / 2 ^ i : Nat) : Int) := by simp
  unfold bitP
  rw [e, and_one (by omega), Nat.testBit_eq_decide_div_mod_eq]
  by_cases h : v / 2 ^ i % 2 = 1
  · rw [h, decide_eq_true rfl]; rfl
  · rw [decide_eq_false h]; simp; omega
theorem and_nat {a b : Nat} (ha : a < 1000000) (hb : b < 1000000) : bits .and .i64 (a : Int) (b : Int) = ((a &&& b : Nat) : Int) := by
  unfold bits
  dsimp only
  have h : a &&& b ≤ a := Nat.and_le_left
  rw [BitVec.toNat_and, bv_nat (by omega), bv_nat (by omega), i64_of_nat (by omega)]
section
variable {p p' : Pl} {ss : List St}
/-- Of a plate, with the stars of a set alone known, the scale is told if these can be right. -/
theorem part_scale (hnl : ss.length = p.n) (hv : plB p ss = true) (e1 : p'.lo = p.lo) (e2 : p'.hi = p.hi) (e3 : p'.n = p.n) {v a : Nat} (hv1 : v < 1024) (ha : knownTo ss p.n = (a : Int)) (hs : ∀ i, v.testBit i = true → a.testBit i = true) :
    (canR p ss (v : Int) = true ∧ ∃ x y, scaleR p' (partTo ss (v : Int) p.n) = .ok (.agg #[.int .i64 x, .int .i64 y])) ∨ (canR p ss (v : Int) = false ∧ scaleR p' (partTo ss (v : Int) p.n) = .error 10) := by
  have ok := plOk' hnl hv
  have n10 := ok.n10
  obtain ⟨a', f, f1, f2⟩ := known_nat ss p.n (by omega)
  obtain rfl : a = a' := by omega
  have hl : (partTo ss (v : Int) p.n).length = ss.length := partTo_len _ _ _
  have hget : ∀ i, i < p.n → (partTo ss (v : Int) p.n).getD i default = { ss.getD i default with k := v.testBit i } := fun i hi => by
    rw [partTo_get ss (v : Int) p.n i (by omega), if_pos hi, bitP_nat (by omega)]
  have hk : ∀ i, i < p.n → v.testBit i = true → (ss.getD i default).k = true := fun i hi h => by
    have := hs i h
    rw [f2, Bool.and_eq_true] at this
    exact this.2
  have hsame : ∀ i, i < p.n → v.testBit i = true → (partTo ss (v : Int) p.n).getD i default = ss.getD i default := fun i hi h => by
    rw [hget i hi, h]
    have := hk i hi h
    generalize ss.getD i default = s at *
    cases s; simp at this; rw [this]
  have hst : ∀ i, i < p.n → stB (ss.getD i default) = true := fun i hi => by
    have h := hv
    unfold plB at h
    simp only [Bool.and_eq_true, List.all_eq_true] at h
    have e : ss.getD i default = ss[i]'(by omega) := by simp [List.getD, show i < ss.length by omega]
    rw [e]; exact h.2 _ (List.getElem_mem _)
  have hvp : plB p' (partTo ss (v : Int) p.n) = true := by
    have h := hv
    unfold plB at h ⊢
    rw [e1, e2, e3]
    simp only [Bool.and_eq_true, List.all_eq_true] at h ⊢
    refine ⟨h.1, fun s hsm => ?_⟩
    obtain ⟨i, hi, e⟩ := List.getElem_of_mem hsm
    have hi' : i < p.n := by omega
    have e' : (partTo ss (v : Int) p.n).getD i default = s := by simp [List.getD, hi, e]
    rw [← e']
    by_cases hb : v.testBit i = true
    · rw [hsame i hi' hb]; exact hst i hi'
    · rw [hget i hi', Bool.eq_false_iff.2 hb]
      have := hst i hi'
      unfold stB at this ⊢
      simp only [Bool.and_eq_true] at this ⊢
      exact ⟨this.1, by simp⟩
  obtain ⟨v', g, g1, g2⟩ := known_nat (partTo ss (v : Int) p.n) p.n (by omega)
  have hp : 2 ^ p.n ≤ 1024 := (by decide +kernel : ∀ k : Fin 11, 2 ^ k.val ≤ 1024) ⟨p.n, by omega⟩
  have hbit : ∀ i, i < p.n → v'.testBit i = v.testBit i := fun i hi => by rw [g2, decide_eq_true hi, hget i hi]; simp
  have hpair : Pair (fun _ => 0) (trL p ss (v : Int)) (trA p' (partTo ss (v : Int) p.n)) := by
    unfold trA
    rw [e3, g]
    refine pair_of ok.lo ok.hi e1 e2 e3 fun sc h1 h2 d c => ?_
    unfold CornC
    rw [Int.add_zero]
    constructor
    · refine fun k => ⟨k.1, fun i hi hr => ?_⟩
      rw [bit_nat (by omega) (by omega), hbit i hi] at hr
      rw [hsame i hi hr]
      exact k.2 i hi (by rw [bit_nat (by omega) (by omega)]; exact hr)
    · refine fun k => ⟨k.1, fun i hi hr => ?_⟩
      rw [bit_nat (by omega) (by omega)] at hr
      have := k.2 i hi (by rw [bit_nat (by omega) (by omega), hbit i hi]; exact hr)
      rwa [hsame i hi hr] at this
  have hn := pair_nil hpair
  rcases scale_cases hvp with ⟨h1, h2⟩ | ⟨h1, x, y, h2, _⟩
  · exact .inr ⟨by rw [← tr_nil]; exact hn.2 h1, h2⟩
  · refine .inl ⟨?_, x, y, h2⟩
    cases hc : canR p ss (v : Int)
    · exact absurd (hn.1 (tr_nil.2 hc)) h1
    · rfl
/-- Some of the stars that can be right can. -/
theorem can_sub (hnl : ss.length = p.n) (hv : plB p ss = true) {v v' : Nat} (h1 : v < 1024) (h2 : v' < 1024) (hs : ∀ i, v.testBit i = true → v'.testBit i = true) (hc : canR p ss (v' : Int) = true) : canR p ss (v : Int) = true :=
  inc_can (p := p) (z := p) (ss := ss) (zs := ss) ⟨Int.le_refl _, Int.le_refl _, rfl, hnl, hnl, hv, hv, fun _ _ _ => ⟨Int.le_refl _, Int.le_refl _⟩, fun _ _ h => h, fun _ _ _ _ => ⟨Int.le_refl _, Int.le_refl _⟩⟩ h1 h2 hs hc
structure ClF (p : Pl) (ss : List St) (b : Int) (C D a o : Nat) : Prop where
  clash : clashR p ss = .ok (.int .i64 C)
  drop : dropR p ss = .ok (.int .i64 D)
  known : knownTo ss p.n = (a : Int)
  lt : C < 1024 ∧ D < 1024 ∧ a < 1024 ∧ o < 1024
  csub : ∀ i, C.testBit i = true → a.testBit i = true
  c0 : bits .andNot .i64 (C : Int) (a : Int) = 0
  d0 : bits .andNot .i64 (D : Int) (a : Int) = 0
  sc : (C = 0 ∧ D = 0 ∧ ∃ x y, scaleR p ss = .ok (.agg #[.int .i64 x, .int .i64 y])) ∨ (C ≠ 0 ∧ D ≠ 0 ∧ scaleR p ss = .error 10 ∧ bits .and .i64 (C : Int) (D : Int) ≠ 0 ∧ canR p ss (C : Int) = false)
  one : ∀ i, i < p.n → bitP (C : Int) i = true → ∃ y : Nat, bits .andNot .i64 (C : Int) (wrap64 (2 ^ i)) = (y : Int) ∧ y < 1024 ∧ (∀ j, y.testBit j = true → a.testBit j = true) ∧ canR p ss (y : Int) = true
  ad : ∃ y : Nat, bits .andNot .i64 (a : Int) (D : Int) = (y : Int) ∧ y < 1024 ∧ (∀ j, y.testBit j = true → a.testBit j = true) ∧ canR p ss (y : Int) = true
  own : bits .and .i64 b (a : Int) = (o : Int)
  osub : ∀ i, o.testBit i = true → a.testBit i = true
  ao : ∃ y : Nat, bits .andNot .i64 (a : Int) (o : Int) = (y : Int) ∧ y < 1024 ∧ (∀ j, y.testBit j = true → a.testBit j = true) ∧ (canR p ss (y : Int) = true → popc (D : Int) < popc (o : Int) ∨ (popc (D : Int) = popc (o : Int) ∧ D ≤ o))
  oo : canR p ss (o : Int) = false → C ≠ 0 ∧ (popc (C : Int) < popc (o : Int) ∨ (popc (C : Int) = popc (o : Int) ∧ C ≤ o))
theorem andNot_sub {C a : Nat} (hC : C < 1024) (ha : a < 1024) (h : ∀ i, C.testBit i = true → a.testBit i = true) : bits .andNot .i64 (C : Int) (a : Int) = 0 := by
  obtain ⟨y, e, _, h2⟩ := andNot_nat (a := C) (b := a) (by omega) (by omega)
  have : y = 0 := Nat.eq_of_testBit_eq fun i => by
    rw [h2, Nat.zero_testBit]
    cases hc : C.testBit i
    · rfl
    · rw [h i hc]; rfl
  rw [e, this]; rfl
theorem clash_facts (hnl : ss.length = p.n) (hv : plB p ss = true) {b : Int} (hb : 0 ≤ b ∧ b ≤ 65535) : ∃ C D a o, ClF p ss b C D a o := by
  have ok := plOk' hnl hv
  have n10 := ok.n10
  obtain ⟨a, D, hd⟩ := drop_is hnl hv
  have ha := hd.a10.2
  have hDl := hd.lt
  obtain ⟨bn, rfl⟩ : ∃ bn : Nat, b = (bn : Int) := ⟨b.toNat, by omega⟩
  have hole : bn &&& a ≤ a := Nat.and_le_right
  have hos : ∀ i, (bn &&& a).testBit i = true → a.testBit i = true := fun i hi => by rw [Nat.testBit_and, Bool.and_eq_true] at hi; exact hi.2
  obtain ⟨yd, d1, d2, d3, d4⟩ := hd.can
  obtain ⟨yo, o1, o2, o3⟩ := andNot_nat (a := a) (b := bn &&& a) (by omega) (by omega)
  have had : ∃ y : Nat, bits .andNot .i64 (a : Int) (D : Int) = (y : Int) ∧ y < 1024 ∧ (∀ j, y.testBit j = true → a.testBit j = true) ∧ canR p ss (y : Int) = true :=
    ⟨yd, d1, d2, fun j hj => by rw [d3, Bool.and_eq_true] at hj; exact hj.1, d4⟩
  have hao : ∃ y : Nat, bits .andNot .i64 (a : Int) ((bn &&& a : Nat) : Int) = (y : Int) ∧ y < 1024 ∧ (∀ j, y.testBit j = true → a.testBit j = true) ∧ (canR p ss (y : Int) = true → popc (D : Int) < popc ((bn &&& a : Nat) : Int) ∨ (popc (D : Int) = popc ((bn &&& a : Nat) : Int) ∧ D ≤ bn &&& a)) :=
    ⟨yo, o1, by omega, fun j hj => by rw [o3, Bool.and_eq_true] at hj; exact hj.1, fun hc => hd.least (bn &&& a) (by omega) hos (by unfold dropF; rw [hd.known, o1]; exact hc)⟩
  have hown : bits .and .i64 (bn : Int) (a : Int) = ((bn &&& a : Nat) : Int) := and_nat (by omega) (by omega)
  have hd0 := andNot_sub hDl ha hd.sub
  cases hca : canR p ss (a : Int) with
  | true =>
    have hD0 : D = 0 := by
      have h := hd.least 0 (by decide) (fun i h => (by rw [Nat.zero_testBit] at h; cases h)) (by
        unfold dropF
        rw [hd.known]
        obtain ⟨y, g1, g2, g3⟩ := andNot_nat (a := a) (b := 0) (by omega) (by decide)
        have : y = a := Nat.eq_of_testBit_eq fun i => by rw [g3, Nat.zero_testBit]; simp
        rw [g1, this]; exact hca)
      have hp := popc_le 10 D (by decide) (by omega)
      rw [show popc ((0 : Nat) : Int) = 0 from popc_zero] at h
      omega
    subst hD0
    have hsc : ∃ x y, scaleR p ss = .ok (.agg #[.int .i64 x, .int .i64 y]) := by
      rcases scale_cases hv with ⟨h1, _⟩ | ⟨_, x, y, h2, _⟩
      · unfold trA at h1
        rw [hd.known, tr_nil, hca] at h1; cases h1
      · exact ⟨x, y, h2⟩
    refine ⟨0, 0, a, bn &&& a, by unfold clashR; rw [if_pos hv, hd.known, hca]; rfl, hd.drop, hd.known, ⟨by decide, by decide, ha, by omega⟩, fun i h => (by rw [Nat.zero_testBit] at h; cases h), andNot_sub (by decide) ha (fun i h => (by rw [Nat.zero_testBit] at h; cases h)), hd0, .inl ⟨rfl, rfl, hsc⟩, fun i hi h => ?_, had, hown, hos, hao, fun hc => ?_⟩
    · rw [bitP_nat (by decide), Nat.zero_testBit] at h; cases h
    · rw [can_sub hnl hv (by omega) (by omega) hos hca] at hc; cases hc
  | false =>
    obtain ⟨C, c1, c2⟩ := few_is (ask := clashF p ss) (all := a) (by omega) ⟨a, ha, (sub_bits ha ha).2 (fun i h => h), by unfold clashF; rw [hca]; rfl⟩
    have hCl := c2.lt
    have hCs := (sub_bits hCl ha).1 c2.sub
    have hCc : canR p ss (C : Int) = false := by have := c2.asks; unfold clashF at this; simpa using this
    have hC0 : C ≠ 0 := fun h => by
      subst h
      rw [show ((0 : Nat) : Int) = 0 from rfl, can_none ok] at hCc; cases hCc
    have hcd : ∃ i, C.testBit i = true ∧ D.testBit i = true := by
      by_cases hx : ∃ i, C.testBit i = true ∧ D.testBit i = true
      · exact hx
      · have := can_sub hnl hv hCl d2 (fun i hi => by
          rw [d3, hCs i hi]
          cases hDi : D.testBit i
          · rfl
          · exact absurd ⟨i, hi, hDi⟩ hx) d4
        rw [hCc] at this; cases this
    obtain ⟨i0, hi1, hi2⟩ := hcd
    have hD0 : D ≠ 0 := fun h => by subst h; rw [Nat.zero_testBit] at hi2; cases hi2
    have hsc : scaleR p ss = .error 10 := by
      rcases scale_cases hv with ⟨_, h2⟩ | ⟨h1, _⟩
      · exact h2
      · unfold trA at h1
        rw [hd.known, Ne, tr_nil, hca] at h1; exact absurd rfl h1
    refine ⟨C, D, a, bn &&& a, by unfold clashR; rw [if_pos hv, hd.known, hca, c1]; rfl, hd.drop, hd.known, ⟨hCl, hDl, ha, by omega⟩, hCs, andNot_sub hCl ha hCs, hd0, .inr ⟨hC0, hD0, hsc, ?_, hCc⟩, fun i hi h => ?_, had, hown, hos, hao, fun hc => ?_⟩
    · rw [and_nat (by omega) (by omega)]
      intro h
      have hz : C &&& D = 0 := by omega
      have hb := Nat.testBit_and C D i0
      rw [hz, Nat.zero_testBit, hi1, hi2] at hb
      cases hb
    · rw [bitP_nat (by omega)] at h
      have hpw : wrap64 (2 ^ i) = ((2 ^ i : Nat) : Int) := (by decide +kernel : ∀ k : Fin 12, wrap64 (2 ^ k.val) = ((2 ^ k.val : Nat) : Int)) ⟨i, by omega⟩
      have hp2 : 2 ^ i < 4096 := (by decide +kernel : ∀ k : Fin 12, 2 ^ k.val < 4096) ⟨i, by omega⟩
      obtain ⟨y, g1, g2, g3⟩ := andNot_nat (a := C) (b := 2 ^ i) (by omega) (by omega)
      have hyC : ∀ j, y.testBit j = true → C.testBit j = true := fun j hj => by rw [g3, Bool.and_eq_true] at hj; exact hj.1
      refine ⟨y, by rw [hpw, g1], by omega, fun j hj => hCs j (hyC j hj), ?_⟩
      cases hy : canR p ss (y : Int)
      · have hl := c2.least y (by omega) ((sub_bits (by omega) ha).2 (fun j hj => hCs j (hyC j hj))) (by unfold clashF; rw [hy]; rfl)
        have hlt := popc_lt (x := C) (y := y) (by omega) (by omega) hyC (i := i) (by omega) h (by rw [g3, Nat.testBit_two_pow, decide_eq_true rfl]; simp)
        omega
      · rfl
    · exact ⟨hC0, c2.least _ (by omega) ((sub_bits (by omega) ha).2 hos) (by unfold clashF; rw [hc]; rfl)⟩
end
end Go.Proofs.YtdkegkacpdkjgaaGreat

namespace Go.Proofs.YtdkegkacpdkjgaaGreat
open Go.RowKit

/-- The worst of the first k stars. -/
def PrI (W : Nat → Int) (k : Nat) (b x : Int) : Prop := (k = 0 ∧ b = 0 ∧ x = -1) ∨ ∃ b' : Nat, b = b' ∧ b' < k ∧ W b' = x ∧ ∀ j, j < k → W j ≤ x ∧ (W j = x → b' ≤ j)
theorem pr_step {W : Nat → Int} {k : Nat} {b x : Int} (h : PrI W k b x) (h0 : 0 ≤ W k) : PrI W (k + 1) (if x < W k then (k : Int) else b) (if x < W k then W k else x) := by
  rcases h with ⟨h1, h2, h3⟩ | ⟨b', h1, h2, h3, h4⟩
  · rw [if_pos (by omega), if_pos (by omega)]
    refine .inr ⟨k, rfl, by omega, rfl, fun j hj => ?_⟩
    obtain rfl : j = k := by omega
    exact ⟨Int.le_refl _, fun _ => Nat.le_refl _⟩
  · by_cases hx : x < W k
    · rw [if_pos hx, if_pos hx]
      refine .inr ⟨k, rfl, by omega, rfl, fun j hj => ?_⟩
      by_cases hj2 : j < k
      · have := (h4 j hj2).1
        exact ⟨by omega, fun h => by omega⟩
      · obtain rfl : j = k := by omega
        exact ⟨Int.le_refl _, fun _ => Nat.le_refl _⟩
    · rw [if_neg hx, if_neg hx]
      refine .inr ⟨b', h1, by omega, h3, fun j hj => ?_⟩
      by_cases hj2 : j < k
      · exact h4 j hj2
      · obtain rfl : j = k := by omega
        exact ⟨by omega, fun h => by omega⟩
theorem doubt_cases {p : Pl} {ss : List St} {a : Nat} (hk : plB p ss = true → KnO p ss a) (hok : plB p ss = true → PlOk p ss) :
    (∃ c, c ≠ 0 ∧ doubtR p ss a true = .error c ∧ poorR p ss = .error c) ∨ ∃ L, doubtR p ss a true = .ok L ∧ plB p ss = true ∧ trA p ss ≠ [] ∧ knownTo ss p.n ≠ 0 := by
  unfold doubtR openR poorR
  by_cases hv : plB p ss = true
  · have K := hk hv
    have ok := hok hv
    rw [if_pos hv, if_pos hv, if_pos rfl]
    by_cases hn : trA p ss = []
    · rw [if_pos hn, if_pos ((sc_nil K ok).2 hn)]
      exact .inl ⟨10, by decide, rfl, rfl⟩
    · have hs : ¬ scL p ss a = [] := fun h => hn ((sc_nil K ok).1 h)
      rw [if_neg hn, if_neg hs]
      dsimp only
      by_cases ha : a = 0
      · rw [if_pos ha, if_pos ((zero_known K).2 ha)]
        exact .inl ⟨12, by decide, rfl, rfl⟩
      · rw [if_neg ha]
        exact .inr ⟨_, rfl, hv, hn, fun h => ha ((zero_known K).1 h)⟩
  · rw [if_neg hv, if_neg hv]
    exact .inl ⟨1, by decide, rfl, rfl⟩
set_option maxRecDepth 100000 in
set_option maxHeartbeats 8000000 in
theorem poorRR_any (p : Pl) (ss : List St) (a : Nat) (w : World) (hm : PlAt p ss w) (hk : plB p ss = true → KnO p ss a) (hok : plB p ss = true → PlOk p ss) :
    Calls Tryz.prog 24 #[p.val] w (Ret (repW (poorR p ss)) w) := by
  have HD : Hid (∀ Y, Below w.heap.size w Y → Calls Tryz.prog 45 #[.agg #[.int .i64 p.lo, .int .i64 p.hi, .slice p.a p.n p.cap], .bool true] Y (OpO (doubtR p ss a true) Y)) := fun Y hY => doubt_any p ss a true Y (hm.below hY (Nat.le_refl _)) hk
  have HST : Hid (∀ (k x0 x1 y0 y1 : Int) Y, starR p ss k = .ok (.agg #[.int .i64 x0, .int .i64 x1, .int .i64 y0, .int .i64 y1]) → Below w.heap.size w Y → Calls Tryz.prog 13 #[.agg #[.int .i64 p.lo, .int .i64 p.hi, .slice p.a p.n p.cap], .int .i64 k] Y (Ret (.tuple #[.agg #[.int .i64 x0, .int .i64 x1], .agg #[.int .i64 y0, .int .i64 y1], .int .i64 0]) Y)) := fun k x0 x1 y0 y1 Y hs hY => by
    have h : Calls Tryz.prog 13 #[p.val, .int .i64 k] Y (Ret (tripV (starRR p ss a k)) Y) := starRR_any p ss a k Y (hm.below hY (Nat.le_refl _)) hk hm.big
    rw [← star_eq hk hok k, hs] at h
    exact h
  have hnl := hm.nl
  have hbig := hm.big
  unfold Pl.val
  obtain ⟨W0, hW0⟩ : ∃ X, w.alloc (.cells #[.int .i64 p.lo, .int .i64 p.hi, .slice p.a p.n p.cap] 26) = X := ⟨_, rfl⟩
  have hB0 : Below w.heap.size w W0 := by rw [← hW0]; exact newB _ _
  have hQ : BoxP W0 w.heap.size p := by rw [← hW0]; exact boxP_new w p _
  have HB0 := Lib.hid hB0
  have HQ := Lib.hid hQ
  obtain ⟨b0, b1, b2⟩ := id hQ
  clear hQ
  rcases doubt_cases hk hok with ⟨c, hc, hd, hp⟩ | ⟨L, hd, hv, hn, h0⟩
  · have hc2 : (c == 0) = false := by simpa using hc
    have hc3 : (c != 0) = true := by simpa using hc
    rw [hd] at HD
    rw [hp]
    clear hm hk hok hd hp HST
    go_enter Tryz.func24, Tryz.ntmps24
    go_wp2_with fail
    clear hW0 b0 b1 b2
    refine (HD.out W0 HB0.out).mono ?_
    rintro e w1 ⟨rfl, hx⟩
    go_wp2_with fail
    exact bodyPost_ret (v := .tuple #[.int .i64 0, .int .i64 0, .int .i64 c]) (by simp [results, Tryz.results24, go_sem]) rfl ⟨rfl, BT HB0.out hx⟩
  have K := hk hv
  have ok := hok hv
  obtain ⟨i0, hi0, hi1⟩ := one_a K (fun h => h0 ((zero_known K).2 h))
  rw [hd] at HD
  have hpf := poor_facts hnl hv
  have hst0 : ∀ c, starR p ss ((i0 : Nat) : Int) = .error c → c = 0 := fun c h => by
    have e := star_eq hk hok ((i0 : Nat) : Int)
    rw [h] at e
    have hr : starRR p ss a ((i0 : Nat) : Int) = tupR (doubtR p ss a true) (plcs ss a p.n i0 false) (plcs ss a p.n i0 true) := by
      unfold starRR
      rw [star_in, decide_eq_true (by omega : (0 : Int) ≤ (i0 : Int) ∧ (i0 : Int) < (p.n : Int))]
      rfl
    rw [hr, hd] at e
    unfold tupR repB tripV at e
    dsimp only at e
    injection e with e
    injection e with e
    simp at e
    exact e.2.2
  rcases hpf with ⟨c, hc, _, hs⟩ | ⟨s, x, hp, hs, hF⟩
  · exact absurd (hst0 c (hs i0 hi0)) hc
  clear hst0
  obtain ⟨W, hW⟩ : ∃ W : Nat → Int, W = fun k : Nat => (starRR p ss a (k : Int)).1.2 - (starRR p ss a (k : Int)).1.1 + ((starRR p ss a (k : Int)).2.1.2 - (starRR p ss a (k : Int)).2.1.1) := ⟨_, rfl⟩
  have hWF : ∀ k, k < p.n → ∃ x0 x1 y0 y1 : Int, starR p ss ((k : Nat) : Int) = .ok (.agg #[.int .i64 x0, .int .i64 x1, .int .i64 y0, .int .i64 y1]) ∧ ((-200000000 ≤ x0 ∧ x1 ≤ 200000000) ∧ (-200000000 ≤ y0 ∧ y1 ≤ 200000000) ∧ x0 ≤ x1 ∧ y0 ≤ y1) ∧ W k = x1 - x0 + y1 - y0 ∧ W k ≤ x ∧ (W k = x → s ≤ k) ∧ ((k : Int) = s → W k = x) := fun k hk2 => by
    obtain ⟨x0, x1, y0, y1, e1, e2, e3, e4, e5, e6, e7, e8⟩ := hF k hk2
    have e := star_eq hk hok ((k : Nat) : Int)
    rw [e1] at e
    have ew : W k = x1 - x0 + (y1 - y0) := by
      rw [hW]
      show (starRR p ss a (k : Int)).1.2 - (starRR p ss a (k : Int)).1.1 + ((starRR p ss a (k : Int)).2.1.2 - (starRR p ss a (k : Int)).2.1.1) = _
      generalize starRR p ss a (k : Int) = r at *
      simp [repB, tripV] at e
      omega
    exact ⟨x0, x1, y0, y1, e1, ⟨e2, e3, e4, e5⟩, by omega, by omega, by omega, by omega⟩
  have HWF := Lib.hid hWF
  have hend : Hid (∀ bb xx : Int, PrI W p.n bb xx → bb = s ∧ xx = x) := fun bb xx h => by
    rcases h with ⟨h1, _⟩ | ⟨b', h1, h2, h3, h4⟩
    · omega
    · obtain ⟨_, _, _, _, _, _, _, f1, f2, _⟩ := hWF b' h2
      obtain ⟨_, _, _, _, _, _, _, g1, g2, g3⟩ := hWF s.toNat (by omega)
      have g4 := g3 (by omega)
      have h5 := h4 s.toNat (by omega)
      omega
  rw [hp]
  clear hWF hW hF hm hk hok hd hn h0 K ok hi1 hp hv
  have hpn : (0 : Int) < (p.n : Int) := by omega
  go_enter Tryz.func24, Tryz.ntmps24
  go_wp2_with fail
  clear hW0 b0 b1 b2
  refine (HD.out W0 HB0.out).mono ?_
  rintro e w1 ⟨sa, cap, rfl, -, hx⟩
  go_wp2_with fail
  go_loopw [7, 8, 9] (fun b v i wz => ∃ (k : Nat) (bb xx : Int), k ≤ p.n ∧ b = .int .i64 bb ∧ v = .int .i64 xx ∧ i = .int .i64 k ∧ PrI W k bb xx ∧ Below W0.heap.size W0 wz) (fun _ _ i _ => p.n - (intOf i).toNat)
  case atStart => exact ⟨0, 0, -1, by omega, rfl, rfl, rfl, .inl ⟨rfl, rfl, rfl⟩, hx⟩
  case round =>
    clear hx
    obtain ⟨k, bb, xx, hk, rfl, rfl, rfl, hI, hB⟩ := hrel
    obtain ⟨wo, rfl⟩ : ∃ wo : World, wo = wr := ⟨_, rfl⟩
    obtain ⟨b0, b1, b2⟩ := HQ.out.grown hB
    have hk0 : (0 : Int) ≤ (k : Int) := by omega
    by_cases hlt : k < p.n
    · have hki : (k : Int) < (p.n : Int) := by omega
      obtain ⟨x0, x1, y0, y1, e1, ⟨⟨c0, c1⟩, ⟨c2, c3⟩, c4, c5⟩, ew, -, -, -⟩ := HWF.out k hlt
      have hps := pr_step hI (by omega)
      rw [ew] at hps
      have HPS := Lib.hid hps
      clear hI hps
      go_wp2_with fail
      clear b0 b1 b2
      refine (HST.out (k : Int) x0 x1 y0 y1 wo e1 (BT HB0.out hB)).mono ?_
      rintro e Y1 ⟨rfl, hx⟩
      have hB1 := BT hB hx
      clear hx hB e1
      have hx : Below Y1.heap.size Y1 ((Y1.alloc (.cells #[.int .i64 x0, .int .i64 x1] 23)).alloc (.cells #[.int .i64 y0, .int .i64 y1] 23)) := BA (newB _ _) _
      have k11 : Spn2 ((Y1.alloc (.cells #[.int .i64 x0, .int .i64 x1] 23)).alloc (.cells #[.int .i64 y0, .int .i64 y1] 23)) Y1.heap.size x0 x1 := (spn2_new Y1 x0 x1 _).grown (newB _ _)
      have k12 : Spn2 ((Y1.alloc (.cells #[.int .i64 x0, .int .i64 x1] 23)).alloc (.cells #[.int .i64 y0, .int .i64 y1] 23)) (Y1.heap.size + 1) y0 y1 := by have := spn2_new (Y1.alloc (.cells #[.int .i64 x0, .int .i64 x1] 23)) y0 y1 23; rw [World.size_alloc] at this; exact this
      have hB2 := BT hB1 hx
      obtain ⟨p11, r11, -, -⟩ := id k11
      obtain ⟨p12, r12, -, -⟩ := id k12
      have w1 : IntKind.i64.wrap (x1 - x0) = x1 - x0 := IntWalk.i64_in _ (by omega)
      have w2 : IntKind.i64.wrap (x1 - x0 + y1) = x1 - x0 + y1 := IntWalk.i64_in _ (by omega)
      have w3 : IntKind.i64.wrap (x1 - x0 + y1 - y0) = x1 - x0 + y1 - y0 := IntWalk.i64_in _ (by omega)
      clear ew k11 k12 hx hB1
      by_cases hc : xx < x1 - x0 + y1 - y0
      · have h5 := HPS.out
        rw [if_pos hc, if_pos hc] at h5
        clear HPS
        go_wp2_with fail
        go_roundw
        case rel => exact ⟨k + 1, k, x1 - x0 + y1 - y0, by omega, rfl, rfl, by go_num, h5, hB2⟩
        case measure => simp [intOf]; omega
      · have h5 := HPS.out
        rw [if_neg hc, if_neg hc] at h5
        clear HPS
        go_wp2_with fail
        go_roundw
        case rel => exact ⟨k + 1, bb, xx, by omega, rfl, rfl, by go_num, h5, hB2⟩
        case measure => simp [intOf]; omega
    · obtain rfl : k = p.n := by omega
      obtain ⟨rfl, rfl⟩ := hend.out bb xx hI
      have hfin := BT HB0.out hB
      go_wp2_with fail
      exact bodyPost_ret (v := .tuple #[.int .i64 bb, .int .i64 xx, .int .i64 0]) (by simp [results, Tryz.results24, go_sem]) rfl ⟨rfl, hfin⟩
end Go.Proofs.YtdkegkacpdkjgaaGreat

namespace Go.Proofs.YtdkegkacpdkjgaaGreat
open Go.RowKit

theorem leastR_le {sc b m : Int} (h0 : 1 ≤ sc) (hm : 0 ≤ m) (hb : b ≤ sc * m / 1000) : leastS sc b ≤ m := by
  have n0 := Int.mul_nonneg (show 0 ≤ sc by omega) hm
  unfold leastS
  have h1 : max b 0 * 1000 ≤ sc * m := by omega
  have h3 : (m + 1) * sc = sc * m + sc := by rw [Int.add_mul, Int.one_mul, Int.mul_comm]
  exact Int.le_of_lt_add_one (Int.ediv_lt_of_lt_mul (by omega) (by omega))
theorem leastR_gt {sc b m : Int} (h0 : 1 ≤ sc) (hm : 0 ≤ m) (hb : sc * m / 1000 < b) : m < leastS sc b := by
  have n0 := Int.mul_nonneg (show 0 ≤ sc by omega) hm
  unfold leastS
  have h1 : sc * m + 1 ≤ max b 0 * 1000 := by omega
  have h3 : (m + 1) * sc = sc * m + sc := by rw [Int.add_mul, Int.one_mul, Int.mul_comm]
  exact Int.lt_of_add_one_le ((Int.le_ediv_iff_mul_le (by omega)).2 (by omega))
/-- Whether a star that stands there is found at a place of the plate. -/
def hitB (c0 c1 g sc x : Int) : Bool := decide (c0 ≤ g - sc * x / 1000) && decide (g - sc * x / 1000 ≤ c1)
theorem hit_iff {c0 c1 g sc x : Int} (h0 : 1 ≤ sc) (hx : 0 ≤ x) (hx1 : x ≤ 32768) : hitB c0 c1 g sc x = true ↔ max 0 (leastS sc (g - c1)) ≤ x ∧ x ≤ min 32768 (leastS sc (g - c0 + 1) - 1) := by
  unfold hitB
  rw [Bool.and_eq_true, decide_eq_true_eq, decide_eq_true_eq]
  constructor
  · rintro ⟨h1, h2⟩
    have a := leastR_le (b := g - c1) h0 hx (by omega)
    have b := leastR_gt (b := g - c0 + 1) h0 hx (by omega)
    omega
  · rintro ⟨h1, h2⟩
    constructor
    · refine Classical.byContradiction fun h => ?_
      have a := leastR_le (b := g - c0 + 1) h0 hx (by omega)
      omega
    · refine Classical.byContradiction fun h => ?_
      have b := leastR_gt (b := g - c1) h0 hx (by omega)
      omega
/-- What is found so far. -/
structure FdI (H : Nat → Int → Bool) (V : Nat → Int → Prop) (f : Bool) (a b : Int) : Prop where
  no : f = false → ∀ i x, V i x → H i x = false
  lo : f = true → ∃ i x, V i x ∧ H i x = true ∧ x = a
  hi : f = true → ∃ i x, V i x ∧ H i x = true ∧ x = b
  all : f = true → ∀ i x, V i x → H i x = true → a ≤ x ∧ x ≤ b
theorem FdI.ext {H : Nat → Int → Bool} {V V' : Nat → Int → Prop} {f : Bool} {a b : Int} (h : FdI H V f a b) (e : ∀ i x, V i x ↔ V' i x) : FdI H V' f a b where
  no hf i x hv := h.no hf i x ((e i x).2 hv)
  lo hf := by obtain ⟨i, x, hv, k⟩ := h.lo hf; exact ⟨i, x, (e i x).1 hv, k⟩
  hi hf := by obtain ⟨i, x, hv, k⟩ := h.hi hf; exact ⟨i, x, (e i x).1 hv, k⟩
  all hf i x hv := h.all hf i x ((e i x).2 hv)
theorem FdI.miss {H : Nat → Int → Bool} {V V' : Nat → Int → Prop} {f : Bool} {a b : Int} (h : FdI H V f a b) {j : Nat} {y : Int} (hm : H j y = false) (e : ∀ i x, V' i x ↔ V i x ∨ (i = j ∧ x = y)) : FdI H V' f a b where
  no hf i x hv := by
    rcases (e i x).1 hv with hv | ⟨rfl, rfl⟩
    · exact h.no hf i x hv
    · exact hm
  lo hf := by obtain ⟨i, x, hv, k⟩ := h.lo hf; exact ⟨i, x, (e i x).2 (.inl hv), k⟩
  hi hf := by obtain ⟨i, x, hv, k⟩ := h.hi hf; exact ⟨i, x, (e i x).2 (.inl hv), k⟩
  all hf i x hv hh := by
    rcases (e i x).1 hv with hv | ⟨rfl, rfl⟩
    · exact h.all hf i x hv hh
    · rw [hm] at hh; cases hh
theorem FdI.hit {H : Nat → Int → Bool} {V V' : Nat → Int → Prop} {f : Bool} {a b : Int} (h : FdI H V f a b) {j : Nat} {y : Int} (hm : H j y = true) (e : ∀ i x, V' i x ↔ V i x ∨ (i = j ∧ x = y)) : FdI H V' true (if !f then y else min a y) (if !f then y else max b y) := by
  have hj : V' j y := (e j y).2 (.inr ⟨rfl, rfl⟩)
  cases f
  · simp only [Bool.not_false, if_true]
    refine ⟨fun h => (by cases h), fun _ => ⟨j, y, hj, hm, rfl⟩, fun _ => ⟨j, y, hj, hm, rfl⟩, fun _ i x hv hh => ?_⟩
    rcases (e i x).1 hv with hv | ⟨rfl, rfl⟩
    · rw [h.no rfl i x hv] at hh; cases hh
    · exact ⟨Int.le_refl _, Int.le_refl _⟩
  · simp only [Bool.not_true, Bool.false_eq_true, if_false]
    refine ⟨fun h => (by cases h), fun _ => ?_, fun _ => ?_, fun _ i x hv hh => ?_⟩
    · obtain ⟨i, x, hv, k, ex⟩ := h.lo rfl
      by_cases hc : a ≤ y
      · exact ⟨i, x, (e i x).2 (.inl hv), k, by omega⟩
      · exact ⟨j, y, hj, hm, by omega⟩
    · obtain ⟨i, x, hv, k, ex⟩ := h.hi rfl
      by_cases hc : y ≤ b
      · exact ⟨i, x, (e i x).2 (.inl hv), k, by omega⟩
      · exact ⟨j, y, hj, hm, by omega⟩
    · rcases (e i x).1 hv with hv | ⟨rfl, rfl⟩
      · have := h.all rfl i x hv hh; omega
      · omega
/-- Which places of which scales were looked at. -/
def visD (i : Nat) (x : Int) (j : Nat) (y : Int) : Prop := (j < i ∧ 0 ≤ y ∧ y ≤ 32768) ∨ (j = i ∧ 0 ≤ y ∧ y < x)
theorem vis_step (i : Nat) (x : Int) (h0 : 0 ≤ x) (j : Nat) (y : Int) : visD i (x + 1) j y ↔ visD i x j y ∨ (j = i ∧ y = x) := by
  unfold visD; omega
theorem vis_next (i : Nat) (j : Nat) (y : Int) : visD i 32769 j y ↔ visD (i + 1) 0 j y := by
  unfold visD; omega
theorem vis_none (H : Nat → Int → Bool) : FdI H (visD 0 0) false 0 0 where
  no _ j y h := by unfold visD at h; omega
  lo h := by cases h
  hi h := by cases h
  all h := by cases h
/-- What is found at last is what is kept of all truths. -/
theorem fd_kep {xs : List Scl} {L : List Int} {f : Scl → Int × Int} {H : Nat → Int → Bool} (h1 : ∀ x ∈ xs, ∃ i, i < L.length ∧ L.getD i 0 = x.sc) (h2 : ∀ i, i < L.length → ∃ x ∈ xs, x.sc = L.getD i 0)
    (hg : ∀ x ∈ xs, ∀ i, i < L.length → L.getD i 0 = x.sc → ∀ y : Int, 0 ≤ y → y ≤ 32768 → (H i y = true ↔ (f x).1 ≤ y ∧ y ≤ (f x).2)) (hr : ∀ x ∈ xs, 0 ≤ (f x).1 ∧ (f x).2 ≤ 32768)
    {t : Bool} {a b : Int} (h : FdI H (visD L.length 0) t a b) : (kepL f xs).2.2 = t ∧ (t = true → (kepL f xs).1 = a ∧ (kepL f xs).2.1 = b) := by
  obtain ⟨k1, k2, k3, k4⟩ := kepL_of f xs
  generalize kepL f xs = k at *
  obtain ⟨l, m, u⟩ := k
  dsimp only at *
  -- what is found lies in a truth
  have hin : ∀ i y, visD L.length 0 i y → H i y = true → ∃ x ∈ xs, (f x).1 ≤ y ∧ y ≤ (f x).2 := fun i y hv hh => by
    have hi : i < L.length ∧ 0 ≤ y ∧ y ≤ 32768 := by unfold visD at hv; omega
    obtain ⟨x, hx, ex⟩ := h2 i hi.1
    exact ⟨x, hx, (hg x hx i hi.1 ex.symm y hi.2.1 hi.2.2).1 hh⟩
  have hout : ∀ x ∈ xs, ∀ y, (f x).1 ≤ y → y ≤ (f x).2 → ∃ i, visD L.length 0 i y ∧ H i y = true := fun x hx y y0 y1 => by
    obtain ⟨i, hi, ei⟩ := h1 x hx
    have hr' := hr x hx
    exact ⟨i, .inl ⟨hi, by omega, by omega⟩, (hg x hx i hi ei y (by omega) (by omega)).2 ⟨y0, y1⟩⟩
  cases t
  · refine ⟨?_, fun h => (by cases h)⟩
    cases u
    · rfl
    · obtain ⟨x, hx, hle, _⟩ := k2 rfl
      obtain ⟨i, hv, hh⟩ := hout x hx (f x).1 (Int.le_refl _) hle
      rw [h.no rfl i _ hv] at hh; cases hh
  · obtain ⟨i, y, hv, hh, ey⟩ := h.lo rfl
    obtain ⟨i', y', hv', hh', ey'⟩ := h.hi rfl
    have al := h.all rfl
    obtain ⟨x, hx, x0, x1⟩ := hin i y hv hh
    obtain ⟨x', hx', x0', x1'⟩ := hin i' y' hv' hh'
    have a1 := k4 x hx (by omega)
    have a2 := k4 x' hx' (by omega)
    obtain ⟨v, hvm, hvl, ev⟩ := k2 a1.1
    obtain ⟨z, hzm, hzl, ez⟩ := k3 a1.1
    obtain ⟨iv, hv1, hv2⟩ := hout v hvm (f v).1 (Int.le_refl _) hvl
    obtain ⟨iz, hz1, hz2⟩ := hout z hzm (f z).2 hzl (Int.le_refl _)
    have b1 := al iv _ hv1 hv2
    have b2 := al iz _ hz1 hz2
    exact ⟨a1.1, fun _ => by omega⟩
end Go.Proofs.YtdkegkacpdkjgaaGreat

namespace Go.Proofs.YtdkegkacpdkjgaaGreat
open Go.RowKit

structure Arr4 (X : World) (O : Nat) (a b c d : Int) : Prop where
  c0 : X.cell? ⟨O, 0, none⟩ = some (.int .i64 a)
  c1 : X.cell? ⟨O, 1, none⟩ = some (.int .i64 b)
  c2 : X.cell? ⟨O, 2, none⟩ = some (.int .i64 c)
  c3 : X.cell? ⟨O, 3, none⟩ = some (.int .i64 d)
  f0 : X.frozen? ⟨O, 0, none⟩ = false
  f1 : X.frozen? ⟨O, 1, none⟩ = false
  f2 : X.frozen? ⟨O, 2, none⟩ = false
  f3 : X.frozen? ⟨O, 3, none⟩ = false
theorem Arr4.grown {X X' : World} {O : Nat} {a b c d : Int} (h : Arr4 X O a b c d) (hb : Below X.heap.size X X') : Arr4 X' O a b c d :=
  have hl := World.block_lt_of_cell? _ _ h.c0
  ⟨cellB h.c0 hb, cellB h.c1 hb, cellB h.c2 hb, cellB h.c3 hb, (hb.frozen (p := ⟨O, 0, none⟩) hl).trans h.f0, (hb.frozen (p := ⟨O, 1, none⟩) hl).trans h.f1, (hb.frozen (p := ⟨O, 2, none⟩) hl).trans h.f2, (hb.frozen (p := ⟨O, 3, none⟩) hl).trans h.f3⟩
theorem Arr4.set0 {X : World} {O : Nat} {a b c d : Int} (h : Arr4 X O a b c d) (s x : Int) : Arr4 ((X.setCell ⟨O, 0, none⟩ (.int .i64 s)).setCell ⟨O, 1, none⟩ (.int .i64 x)) O s x c d := by
  obtain ⟨c0, c1, c2, c3, f0, f1, f2, f3⟩ := h
  constructor <;> simp [go_sem, c0, c1, c2, c3, f0, f1, f2, f3]
theorem Arr4.set2 {X : World} {O : Nat} {a b c d : Int} (h : Arr4 X O a b c d) (s x : Int) : Arr4 ((X.setCell ⟨O, 2, none⟩ (.int .i64 s)).setCell ⟨O, 3, none⟩ (.int .i64 x)) O a b s x := by
  obtain ⟨c0, c1, c2, c3, f0, f1, f2, f3⟩ := h
  constructor <;> simp [go_sem, c0, c1, c2, c3, f0, f1, f2, f3]
theorem Arr4.put {X : World} {O B : Nat} {a b c d : Int} (h : Arr4 X O a b c d) (hn : O ≠ B) (q : Nat) (v : Value) : Arr4 (X.setCell ⟨B, q, none⟩ v) O a b c d := by
  obtain ⟨c0, c1, c2, c3, f0, f1, f2, f3⟩ := h
  have e : ∀ k, (⟨B, q, none⟩ : Addr) ≠ ⟨O, k, none⟩ := fun k he => by injection he with h1; exact hn h1.symm
  exact ⟨by rw [World.cell?_setCell_other _ _ _ _ (e 0)]; exact c0, by rw [World.cell?_setCell_other _ _ _ _ (e 1)]; exact c1, by rw [World.cell?_setCell_other _ _ _ _ (e 2)]; exact c2, by rw [World.cell?_setCell_other _ _ _ _ (e 3)]; exact c3, by simpa using f0, by simpa using f1, by simpa using f2, by simpa using f3⟩
theorem arr4_new (w : World) (T : TypeId) : Arr4 (w.alloc (.cells #[.int .i64 0, .int .i64 0, .int .i64 0, .int .i64 0] T)) w.heap.size 0 0 0 0 := by
  constructor <;> simp [go_sem]
theorem skyN_one (n : Int) : (decide (-1048576 ≤ n) && decide (n ≤ 1048576)) = skyB n n := by
  unfold skyB
  rw [Bool.eq_iff_iff]
  simp
theorem find_cases {p : Pl} {ss : List St} {a : Nat} (hk : plB p ss = true → KnO p ss a) (hok : plB p ss = true → PlOk p ss) (e n : Int) :
    (∃ c, c ≠ 0 ∧ doubtR p ss a (skyB e e && skyB n n) = .error c ∧ findR p ss e n = .error c) ∨ ∃ L, doubtR p ss a (skyB e e && skyB n n) = .ok L ∧ L = scL p ss a ∧ L ≠ [] ∧ plB p ss = true ∧ (skyB e e = true ∧ skyB n n = true) ∧ a ≠ 0 ∧ trA p ss ≠ [] ∧
      findR p ss e n = alongR (kepL (fun x => fiS x.sc (x.lo false) (x.hi false) (soughtS e n) false) (trA p ss)) (kepL (fun x => fiS x.sc (x.lo true) (x.hi true) (soughtS e n) true) (trA p ss)) := by
  unfold doubtR openR findR tellK
  by_cases hv : plB p ss = true
  · have K := hk hv
    have ok := hok hv
    rw [if_pos hv, if_pos hv]
    by_cases hb : (skyB e e && skyB n n) = true
    · rw [if_pos hb, if_pos hb]
      by_cases hn : trA p ss = []
      · rw [if_pos hn, if_pos ((sc_nil K ok).2 hn)]
        exact .inl ⟨10, by decide, rfl, rfl⟩
      · have hs : ¬ scL p ss a = [] := fun h => hn ((sc_nil K ok).1 h)
        rw [if_neg hn, if_neg hs]
        dsimp only
        by_cases ha : a = 0
        · rw [if_pos ha, if_pos ((zero_known K).2 ha)]
          exact .inl ⟨12, by decide, rfl, rfl⟩
        · rw [if_neg ha, if_neg (fun h => ha ((zero_known K).1 h))]
          exact .inr ⟨_, rfl, rfl, hs, hv, by simpa using hb, ha, hn, rfl⟩
    · rw [if_neg hb, if_neg hb]
      exact .inl ⟨2, by decide, rfl, rfl⟩
  · rw [if_neg hv, if_neg hv]
    exact .inl ⟨1, by decide, rfl, rfl⟩
/-- Whether a star is found at a place, with a scale of a list. -/
def hitL (ss : List St) (a pn : Nat) (L : List Int) (d : Bool) (g : Int) (i : Nat) (x : Int) : Bool := hitB (crR ss (L.getD i 0) a.testBit d pn).1 (crR ss (L.getD i 0) a.testBit d pn).2 g (L.getD i 0) x
theorem fd_is {p : Pl} {ss : List St} {a : Nat} (K : KnO p ss a) (ok : PlOk p ss) (ha : a ≠ 0) (e n : Int) (d : Bool) {t : Bool} {u v : Int} (h : FdI (hitL ss a p.n (scL p ss a) d (if d then n else e)) (visD (scL p ss a).length 0) t u v) :
    (kepL (fun x => fiS x.sc (x.lo d) (x.hi d) (soughtS e n) d) (trA p ss)).2.2 = t ∧ (t = true → (kepL (fun x => fiS x.sc (x.lo d) (x.hi d) (soughtS e n) d) (trA p ss)).1 = u ∧ (kepL (fun x => fiS x.sc (x.lo d) (x.hi d) (soughtS e n) d) (trA p ss)).2.1 = v) := by
  refine fd_kep (sc_of_tr K ok) (tr_of_sc K ok) (fun x hx i hi ei y y0 y1 => ?_) (fun x hx => ?_) h
  · have t' := tr_ok ok hx d
    obtain ⟨ec, -⟩ := tr_cr K ok ha hx d
    unfold hitL
    rw [ei, ec, hit_iff t'.s0 y0 y1]
    unfold fiS soughtS
    cases d <;> exact Iff.rfl
  · unfold fiS soughtS
    cases d
    · exact ⟨Int.le_max_left _ _, Int.min_le_left _ _⟩
    · exact ⟨Int.le_max_left _ _, Int.min_le_left _ _⟩
theorem along_none {k0 k1 : Int × Int × Bool} (h : k0.2.2 = false ∨ (k0.2.2 = true ∧ k1.2.2 = false)) : alongR k0 k1 = .error 4 := by
  unfold alongR
  rcases h with h | ⟨h, h'⟩
  · rw [h]; rfl
  · rw [h, h']; rfl
set_option maxRecDepth 100000 in
set_option maxHeartbeats 16000000 in
theorem findRR_any (p : Pl) (ss : List St) (a : Nat) (m n : Int) (w : World) (hm : PlAt p ss w) (hk : plB p ss = true → KnO p ss a) (hok : plB p ss = true → PlOk p ss) :
    Calls Tryz.prog 18 #[p.val, .int .i64 m, .int .i64 n] w (Ret (repB (findR p ss m n)) w) := by
  have HO : Hid (∀ b Y, Below w.heap.size w Y → Calls Tryz.prog 45 #[.agg #[.int .i64 p.lo, .int .i64 p.hi, .slice p.a p.n p.cap], .bool b] Y (OpO (doubtR p ss a b) Y)) := fun b Y hY => doubt_any p ss a b Y (hm.below hY (Nat.le_refl _)) hk
  have HI1 : Hid (∀ Y, Calls Tryz.prog 66 #[.int .i64 m, .int .i64 (-1048576), .int .i64 1048576] Y (Ret (.bool (skyB m m)) Y)) := fun Y => by
    have h := in_any m (-1048576) 1048576 Y
    rw [skyN_one] at h; exact h
  have HI2 : Hid (∀ Y, Calls Tryz.prog 66 #[.int .i64 n, .int .i64 (-1048576), .int .i64 1048576] Y (Ret (.bool (skyB n n)) Y)) := fun Y => by
    have h := in_any n (-1048576) 1048576 Y
    rw [skyN_one] at h; exact h
  obtain ⟨W0, hW0⟩ : ∃ X, ((w.alloc (.cells #[.int .i64 p.lo, .int .i64 p.hi, .slice p.a p.n p.cap] 26)).alloc (.cells #[.int .i64 0, .int .i64 0] 23)).alloc (.cells #[.int .i64 0, .int .i64 0] 23) = X := ⟨_, rfl⟩
  have hB0 : Below w.heap.size w W0 := by rw [← hW0]; exact BA (BA (newB _ _) _) _
  have hQ : BoxP W0 w.heap.size p := by rw [← hW0]; exact ((boxP_new w p _).grown (newB _ _)).grown (newB _ _)
  have hR1 : Slots (w.heap.size + 1) 2 W0 := by
    rw [← hW0]
    have h := slots_new2r (w.alloc (.cells #[.int .i64 p.lo, .int .i64 p.hi, .slice p.a p.n p.cap] 26)) 23
    rw [World.size_alloc] at h
    exact h.below (newB _ _) (by simp)
  have hR2 : Slots (w.heap.size + 1 + 1) 2 W0 := by
    rw [← hW0]
    have h := slots_new2r ((w.alloc (.cells #[.int .i64 p.lo, .int .i64 p.hi, .slice p.a p.n p.cap] 26)).alloc (.cells #[.int .i64 0, .int .i64 0] 23)) 23
    rw [World.size_alloc, World.size_alloc] at h
    exact h
  have hl0 := hR2.lt2r
  have hl1 : w.heap.size + 1 < W0.heap.size := by omega
  have HB0 := Lib.hid hB0
  have HS1 := Lib.hid hR1
  have HS2 := Lib.hid hR2
  have HQ := Lib.hid hQ
  obtain ⟨b0, b1, b2⟩ := id hQ
  have HM := Lib.hid hm
  clear hQ hm hR1 hR2
  unfold Pl.val
  have hI : Hid (∀ Y, Below W0.heap.size W0 Y → Y.cell? ⟨w.heap.size, 0, none⟩ = some (.int .i64 p.lo) ∧ Y.cell? ⟨w.heap.size, 1, none⟩ = some (.int .i64 p.hi) ∧ Y.cell? ⟨w.heap.size, 2, none⟩ = some (.slice p.a p.n p.cap)) := fun Y hY => by
    obtain ⟨z0, z1, z2⟩ := HQ.out.grown hY
    exact ⟨z0, z1, z2⟩
  have hb0 : Below W0.heap.size W0 W0.drew := Below.drew (Below.refl _ _)
  have hfc := find_cases hk hok m n
  rcases hfc with ⟨c, hc, hd, hp⟩ | ⟨L, hd, hLs, hne, hv, ⟨hb1, hb2⟩, ha, htr, hp⟩
  · rw [hp]
    have hc2 : (c == 0) = false := by simpa using hc
    have hc3 : (c != 0) = true := by simpa using hc
    obtain ⟨bm, hbm⟩ : ∃ b, skyB m m = b := ⟨_, rfl⟩
    obtain ⟨bn, hbn⟩ : ∃ b, skyB n n = b := ⟨_, rfl⟩
    obtain ⟨bv, hbv⟩ : ∃ b, (bm && bn) = b := ⟨_, rfl⟩
    rw [hbm, hbn, hbv] at hd
    rw [hbm] at HI1
    rw [hbn] at HI2
    have HOO : Hid (∀ Y, Below w.heap.size w Y → Calls Tryz.prog 45 #[.agg #[.int .i64 p.lo, .int .i64 p.hi, .slice p.a p.n p.cap], .bool bv] Y (OpO (.error c) Y)) := fun Y hY => by
      have h := HO.out bv Y hY
      rw [hd] at h; exact h
    clear hd HO HM hp hk hok hbm hbn
    cases bm
    · obtain rfl : bv = false := by rw [← hbv]; rfl
      go_enter Tryz.func18, Tryz.ntmps18
      go_upto_region 1 with fail
      clear hW0 b0 b1 b2
      refine wp_region_seq [(0, true), (1, true), (2, false), (3, true), (4, true), (5, false), (6, true), (7, false), (8, true), (9, true), (10, true), (11, true), (12, true)] (fun Y => Y.cell? ⟨w.heap.size, 0, none⟩ = some (.int .i64 p.lo) ∧ Y.cell? ⟨w.heap.size, 1, none⟩ = some (.int .i64 p.hi) ∧ Y.cell? ⟨w.heap.size, 2, none⟩ = some (.slice p.a p.n p.cap)) (by kernel_rfl) (by kernel_rfl) (fun _ _ d _ _ h => by cases d <;> exact h) (hI.out _ hb0) ?_
      refine seq_free (fun F HF Q HQ => ?_)
      generalize W0.drew = X0 at *
      repeat (first | (refine seq_read rfl (by rfl) _ (fun w' hS => by (try dsimp only at hS); go_simp; (try with_reducible rfl)) ?_; (try simp only [Act.put, List.setIfInBounds_toArray, List.set_cons_zero, List.set_cons_succ])) | (refine seq_skip rfl (by rfl) ?_; (try simp only [Act.put, List.setIfInBounds_toArray, List.set_cons_zero, List.set_cons_succ])))
      refine seq_do rfl (by rfl) (fun K hK => ?_)
      go_simp
      refine (HI1.out X0).mono ?_
      rintro e X1 ⟨rfl, hx⟩
      have hb1 := BT hb0 hx
      refine hK _ _ (hI.out _ hb1) ?_
      clear hK K hx
      (try simp only [Act.put, List.setIfInBounds_toArray, List.set_cons_zero, List.set_cons_succ])
      repeat (first | (refine seq_read rfl (by rfl) _ (fun w' hS => by (try dsimp only at hS); go_simp; (try with_reducible rfl)) ?_; (try simp only [Act.put, List.setIfInBounds_toArray, List.set_cons_zero, List.set_cons_succ])) | (refine seq_skip rfl (by rfl) ?_; (try simp only [Act.put, List.setIfInBounds_toArray, List.set_cons_zero, List.set_cons_succ])))
      refine seq_do rfl (by rfl) (fun K hK => ?_)
      go_simp
      refine (HOO.out X1 (BT HB0.out hb1)).mono ?_
      rintro e w1 ⟨rfl, hx⟩
      have hbe := BT hb1 hx
      refine hK _ _ (hI.out _ hbe) ?_
      clear hK K hx
      (try simp only [Act.put, List.setIfInBounds_toArray, List.set_cons_zero, List.set_cons_succ])
      repeat (first | (refine seq_read rfl (by rfl) _ (fun w' hS => by (try dsimp only at hS); go_simp; (try with_reducible rfl)) ?_; (try simp only [Act.put, List.setIfInBounds_toArray, List.set_cons_zero, List.set_cons_succ])) | (refine seq_skip rfl (by rfl) ?_; (try simp only [Act.put, List.setIfInBounds_toArray, List.set_cons_zero, List.set_cons_succ])))
      apply seq_end
      refine HF _ _ ?_
      first | show Exit.inBlock _ _ Exit.normal _ _ | show Exit.then _ _ Exit.normal _ _ | skip
      clear hI F HF Q HQ hb0 hb1
      have hs1 := HS1.out.below hbe hl1
      have hs2 := HS2.out.below hbe hl0
      obtain ⟨u0, r0, f0⟩ := hs1.get 0 (by omega)
      obtain ⟨u1, r1, f1⟩ := hs1.get 1 (by omega)
      obtain ⟨v0, t0, g0⟩ := hs2.get 0 (by omega)
      obtain ⟨v1, t1, g1⟩ := hs2.get 1 (by omega)
      have hfin := BC (BC (BC (BC (BT HB0.out hbe) (w.heap.size + 1) 0 (by omega) (.int .i64 0)) (w.heap.size + 1) 1 (by omega) (.int .i64 0)) (w.heap.size + 1 + 1) 0 (by omega) (.int .i64 0)) (w.heap.size + 1 + 1) 1 (by omega) (.int .i64 0)
      clear hs1 hs2
      go_wp2_with fail
      exact bodyPost_ret (v := .tuple #[.agg #[.int .i64 0, .int .i64 0], .agg #[.int .i64 0, .int .i64 0], .int .i64 c]) (by simp [results, Tryz.results18, go_sem, r0, r1, t0, t1]) rfl ⟨rfl, hfin⟩
    · obtain rfl : bn = bv := by rw [← hbv]; rfl
      go_enter Tryz.func18, Tryz.ntmps18
      go_upto_region 1 with fail
      clear hW0 b0 b1 b2
      refine wp_region_seq [(0, true), (1, true), (2, false), (3, true), (4, true), (5, false), (6, true), (7, false), (8, true), (9, true), (10, true), (11, true), (12, true)] (fun Y => Y.cell? ⟨w.heap.size, 0, none⟩ = some (.int .i64 p.lo) ∧ Y.cell? ⟨w.heap.size, 1, none⟩ = some (.int .i64 p.hi) ∧ Y.cell? ⟨w.heap.size, 2, none⟩ = some (.slice p.a p.n p.cap)) (by kernel_rfl) (by kernel_rfl) (fun _ _ d _ _ h => by cases d <;> exact h) (hI.out _ hb0) ?_
      refine seq_free (fun F HF Q HQ => ?_)
      generalize W0.drew = X0 at *
      repeat (first | (refine seq_read rfl (by rfl) _ (fun w' hS => by (try dsimp only at hS); go_simp; (try with_reducible rfl)) ?_; (try simp only [Act.put, List.setIfInBounds_toArray, List.set_cons_zero, List.set_cons_succ])) | (refine seq_skip rfl (by rfl) ?_; (try simp only [Act.put, List.setIfInBounds_toArray, List.set_cons_zero, List.set_cons_succ])))
      refine seq_do rfl (by rfl) (fun K hK => ?_)
      go_simp
      refine (HI1.out X0).mono ?_
      rintro e X1 ⟨rfl, hx⟩
      have hb1 := BT hb0 hx
      refine hK _ _ (hI.out _ hb1) ?_
      clear hK K hx
      (try simp only [Act.put, List.setIfInBounds_toArray, List.set_cons_zero, List.set_cons_succ])
      repeat (first | (refine seq_read rfl (by rfl) _ (fun w' hS => by (try dsimp only at hS); go_simp; (try with_reducible rfl)) ?_; (try simp only [Act.put, List.setIfInBounds_toArray, List.set_cons_zero, List.set_cons_succ])) | (refine seq_skip rfl (by rfl) ?_; (try simp only [Act.put, List.setIfInBounds_toArray, List.set_cons_zero, List.set_cons_succ])))
      refine seq_do rfl (by rfl) (fun K hK => ?_)
      go_simp
      refine (HI2.out X1).mono ?_
      rintro e X2 ⟨rfl, hx⟩
      have hb2 := BT hb1 hx
      refine hK _ _ (hI.out _ hb2) ?_
      clear hK K hx
      (try simp only [Act.put, List.setIfInBounds_toArray, List.set_cons_zero, List.set_cons_succ])
      repeat (first | (refine seq_read rfl (by rfl) _ (fun w' hS => by (try dsimp only at hS); go_simp; (try with_reducible rfl)) ?_; (try simp only [Act.put, List.setIfInBounds_toArray, List.set_cons_zero, List.set_cons_succ])) | (refine seq_skip rfl (by rfl) ?_; (try simp only [Act.put, List.setIfInBounds_toArray, List.set_cons_zero, List.set_cons_succ])))
      refine seq_do rfl (by rfl) (fun K hK => ?_)
      go_simp
      refine (HOO.out X2 (BT HB0.out hb2)).mono ?_
      rintro e w1 ⟨rfl, hx⟩
      have hbe := BT hb2 hx
      refine hK _ _ (hI.out _ hbe) ?_
      clear hK K hx
      (try simp only [Act.put, List.setIfInBounds_toArray, List.set_cons_zero, List.set_cons_succ])
      repeat (first | (refine seq_read rfl (by rfl) _ (fun w' hS => by (try dsimp only at hS); go_simp; (try with_reducible rfl)) ?_; (try simp only [Act.put, List.setIfInBounds_toArray, List.set_cons_zero, List.set_cons_succ])) | (refine seq_skip rfl (by rfl) ?_; (try simp only [Act.put, List.setIfInBounds_toArray, List.set_cons_zero, List.set_cons_succ])))
      apply seq_end
      refine HF _ _ ?_
      first | show Exit.inBlock _ _ Exit.normal _ _ | show Exit.then _ _ Exit.normal _ _ | skip
      clear hI F HF Q HQ hb0 hb1 hb2
      have hs1 := HS1.out.below hbe hl1
      have hs2 := HS2.out.below hbe hl0
      obtain ⟨u0, r0, f0⟩ := hs1.get 0 (by omega)
      obtain ⟨u1, r1, f1⟩ := hs1.get 1 (by omega)
      obtain ⟨v0, t0, g0⟩ := hs2.get 0 (by omega)
      obtain ⟨v1, t1, g1⟩ := hs2.get 1 (by omega)
      have hfin := BC (BC (BC (BC (BT HB0.out hbe) (w.heap.size + 1) 0 (by omega) (.int .i64 0)) (w.heap.size + 1) 1 (by omega) (.int .i64 0)) (w.heap.size + 1 + 1) 0 (by omega) (.int .i64 0)) (w.heap.size + 1 + 1) 1 (by omega) (.int .i64 0)
      clear hs1 hs2
      go_wp2_with fail
      exact bodyPost_ret (v := .tuple #[.agg #[.int .i64 0, .int .i64 0], .agg #[.int .i64 0, .int .i64 0], .int .i64 c]) (by simp [results, Tryz.results18, go_sem, r0, r1, t0, t1]) rfl ⟨rfl, hfin⟩
  have K := hk hv
  have ok := hok hv
  have hrg : ∀ k, k < L.length → 1 ≤ L.getD k 0 ∧ L.getD k 0 ≤ 1000 := fun k hk => by
    have h := scL_rng p ss a (k := k) (by rw [← hLs]; exact hk)
    rw [← hLs] at h
    have k0 := K.lo
    have k1 := K.hi
    omega
  have hl2 : L.length ≤ 1000 := by
    have k0 := K.lo
    have k1 := K.hi
    have := scTo_len (fun sc => crB ss sc a.testBit p.n) p.lo (p.hi + 1 - p.lo).toNat
    rw [hLs]; unfold scL; omega
  have HOO : Hid (∀ Y, Below w.heap.size w Y → Calls Tryz.prog 45 #[.agg #[.int .i64 p.lo, .int .i64 p.hi, .slice p.a p.n p.cap], .bool true] Y (OpO (.ok L) Y)) := fun Y hY => by
    have h := HO.out (skyB m m && skyB n n) Y hY
    rw [hd, hb1, hb2] at h; exact h
  have HKN : Hid (∀ Y, Below w.heap.size w Y → Calls Tryz.prog 48 #[.agg #[.int .i64 p.lo, .int .i64 p.hi, .slice p.a p.n p.cap]] Y (Ret (.int .i64 (a : Int)) Y)) := fun Y hY => by
    have h := knownR_any p ss Y (HM.out.below hY (Nat.le_refl _)) K.ok.n
    rw [K.e] at h; exact h
  have HC : Hid (∀ d i Y, i < L.length → Below w.heap.size w Y → Calls Tryz.prog 47 #[.agg #[.int .i64 p.lo, .int .i64 p.hi, .slice p.a p.n p.cap], .int .i64 (a : Int), .int .i64 (L.getD i 0), .bool d] Y (Ret (.agg #[.int .i64 (crR ss (L.getD i 0) a.testBit d p.n).1, .int .i64 (crR ss (L.getD i 0) a.testBit d p.n).2]) Y)) := fun d i Y hi hY => corner_any p ss a (L.getD i 0) d Y (HM.out.below hY (Nat.le_refl _)) (fun j hj => K.ok.st j hj d) K.ok.n K.ok.lt K.ok.k (by have := hrg i hi; omega) (hrg i hi).2
  have HCR : Hid (∀ d i, i < L.length → -1099511627776 ≤ (crR ss (L.getD i 0) a.testBit d p.n).1 ∧ (crR ss (L.getD i 0) a.testBit d p.n).1 ≤ 1048576 ∧ -1081344 ≤ (crR ss (L.getD i 0) a.testBit d p.n).2 ∧ (crR ss (L.getD i 0) a.testBit d p.n).2 ≤ 1099511627776) := fun d i hi => crR_rng (by have := hrg i hi; omega) (hrg i hi).2 p.n (by have := ok.nl; omega) (fun j hj => K.ok.st j hj d) K.ok.k
  have hsk : (-1048576 ≤ m ∧ m ≤ 1048576) ∧ -1048576 ≤ n ∧ n ≤ 1048576 := by
    rw [← skyN_one] at hb1 hb2
    simp at hb1 hb2
    exact ⟨hb1, hb2⟩
  have HEND : Hid (∀ d t u v, FdI (hitL ss a p.n L d (if d then n else m)) (visD L.length 0) t u v → (kepL (fun x => fiS x.sc (x.lo d) (x.hi d) (soughtS m n) d) (trA p ss)).2.2 = t ∧ (t = true → (kepL (fun x => fiS x.sc (x.lo d) (x.hi d) (soughtS m n) d) (trA p ss)).1 = u ∧ (kepL (fun x => fiS x.sc (x.lo d) (x.hi d) (soughtS m n) d) (trA p ss)).2.1 = v)) := fun d t u v h => by
    rw [hLs] at h
    exact fd_is K ok ha m n d h
  obtain ⟨RV, hRV⟩ : ∃ RV, repB (findR p ss m n) = RV := ⟨_, rfl⟩
  have HNO0 : Hid (∀ u v, FdI (hitL ss a p.n L false m) (visD L.length 0) false u v → RV = .tuple #[.agg #[.int .i64 0, .int .i64 0], .agg #[.int .i64 0, .int .i64 0], .int .i64 4]) := fun u v h => by
    rw [← hRV, hp, along_none (.inl (HEND.out false false u v h).1)]; rfl
  have HNO1 : Hid (∀ u v u' v', FdI (hitL ss a p.n L false m) (visD L.length 0) true u v → FdI (hitL ss a p.n L true n) (visD L.length 0) false u' v' → RV = .tuple #[.agg #[.int .i64 0, .int .i64 0], .agg #[.int .i64 0, .int .i64 0], .int .i64 4]) := fun u v u' v' h h' => by
    rw [← hRV, hp, along_none (.inr ⟨(HEND.out false true u v h).1, (HEND.out true false u' v' h').1⟩)]; rfl
  have HYES : Hid (∀ u v u' v', FdI (hitL ss a p.n L false m) (visD L.length 0) true u v → FdI (hitL ss a p.n L true n) (visD L.length 0) true u' v' → RV = .tuple #[.agg #[.int .i64 u, .int .i64 v], .agg #[.int .i64 u', .int .i64 v'], .int .i64 0]) := fun u v u' v' h h' => by
    obtain ⟨e1, e2⟩ := HEND.out false true u v h
    obtain ⟨e3, e4⟩ := HEND.out true true u' v' h'
    obtain ⟨e5, e6⟩ := e2 rfl
    obtain ⟨e7, e8⟩ := e4 rfl
    rw [← hRV, hp]
    unfold alongR
    rw [if_pos e1, if_pos e3, e5, e6, e7, e8]
    rfl
  rw [hRV]
  rw [hb1] at HI1
  rw [hb2] at HI2
  clear hRV HEND hp htr ha hb1 hb2 hv hne hLs hd HO HM hk hok K ok
  go_enter Tryz.func18, Tryz.ntmps18
  go_upto_region 1 with fail
  clear hW0 b0 b1 b2
  refine wp_region_seq [(0, true), (1, true), (2, false), (3, true), (4, true), (5, false), (6, true), (7, false), (8, true), (9, true), (10, true), (11, true), (12, true)] (fun Y => Y.cell? ⟨w.heap.size, 0, none⟩ = some (.int .i64 p.lo) ∧ Y.cell? ⟨w.heap.size, 1, none⟩ = some (.int .i64 p.hi) ∧ Y.cell? ⟨w.heap.size, 2, none⟩ = some (.slice p.a p.n p.cap)) (by kernel_rfl) (by kernel_rfl) (fun _ _ d _ _ h => by cases d <;> exact h) (hI.out _ hb0) ?_
  refine seq_free (fun F HF Q HQ => ?_)
  generalize W0.drew = X0 at *
  repeat (first | (refine seq_read rfl (by rfl) _ (fun w' hS => by (try dsimp only at hS); go_simp; (try with_reducible rfl)) ?_; (try simp only [Act.put, List.setIfInBounds_toArray, List.set_cons_zero, List.set_cons_succ])) | (refine seq_skip rfl (by rfl) ?_; (try simp only [Act.put, List.setIfInBounds_toArray, List.set_cons_zero, List.set_cons_succ])))
  refine seq_do rfl (by rfl) (fun K hK => ?_)
  go_simp
  refine (HI1.out X0).mono ?_
  rintro e X1 ⟨rfl, hx⟩
  have hb1 := BT hb0 hx
  refine hK _ _ (hI.out _ hb1) ?_
  clear hK K hx
  (try simp only [Act.put, List.setIfInBounds_toArray, List.set_cons_zero, List.set_cons_succ])
  repeat (first | (refine seq_read rfl (by rfl) _ (fun w' hS => by (try dsimp only at hS); go_simp; (try with_reducible rfl)) ?_; (try simp only [Act.put, List.setIfInBounds_toArray, List.set_cons_zero, List.set_cons_succ])) | (refine seq_skip rfl (by rfl) ?_; (try simp only [Act.put, List.setIfInBounds_toArray, List.set_cons_zero, List.set_cons_succ])))
  refine seq_do rfl (by rfl) (fun K hK => ?_)
  go_simp
  refine (HI2.out X1).mono ?_
  rintro e X2 ⟨rfl, hx⟩
  have hb2 := BT hb1 hx
  refine hK _ _ (hI.out _ hb2) ?_
  clear hK K hx
  (try simp only [Act.put, List.setIfInBounds_toArray, List.set_cons_zero, List.set_cons_succ])
  repeat (first | (refine seq_read rfl (by rfl) _ (fun w' hS => by (try dsimp only at hS); go_simp; (try with_reducible rfl)) ?_; (try simp only [Act.put, List.setIfInBounds_toArray, List.set_cons_zero, List.set_cons_succ])) | (refine seq_skip rfl (by rfl) ?_; (try simp only [Act.put, List.setIfInBounds_toArray, List.set_cons_zero, List.set_cons_succ])))
  refine seq_do rfl (by rfl) (fun K hK => ?_)
  go_simp
  refine (HOO.out X2 (BT HB0.out hb2)).mono ?_
  rintro e w1 ⟨sa, cap, rfl, hin, hx⟩
  have hbe := BT hb2 hx
  refine hK _ _ (hI.out _ hbe) ?_
  clear hK K hx
  (try simp only [Act.put, List.setIfInBounds_toArray, List.set_cons_zero, List.set_cons_succ])
  repeat (first | (refine seq_read rfl (by rfl) _ (fun w' hS => by (try dsimp only at hS); go_simp; (try with_reducible rfl)) ?_; (try simp only [Act.put, List.setIfInBounds_toArray, List.set_cons_zero, List.set_cons_succ])) | (refine seq_skip rfl (by rfl) ?_; (try simp only [Act.put, List.setIfInBounds_toArray, List.set_cons_zero, List.set_cons_succ])))
  apply seq_end
  refine HF _ _ ?_
  first | show Exit.inBlock _ _ Exit.normal _ _ | show Exit.then _ _ Exit.normal _ _ | skip
  clear F HF Q HQ hb0 hb1 hb2
  have hle1 : W0.heap.size ≤ w1.heap.size := hbe.size
  obtain ⟨W1, hW1⟩ : ∃ X, w1.alloc (.cells #[.int .i64 0, .int .i64 0, .int .i64 0, .int .i64 0] 80) = X := ⟨_, rfl⟩
  have hx : Below w1.heap.size w1 W1 := by rw [← hW1]; exact newB _ _
  have hA4 : Arr4 W1 w1.heap.size 0 0 0 0 := by rw [← hW1]; exact arr4_new _ _
  have hB1 : Below W0.heap.size W0 W1 := BT hbe hx
  have HIN : Hid (∀ Y, Below w1.heap.size w1 Y → IntsIn Y sa L) := fun Y hY => hin.below hY
  go_wp2_with fail
  clear hW1 hin
  go_loopw [12] (fun ki wz => (ki = .int .i64 0 ∧ Arr4 wz w1.heap.size 0 0 0 0 ∧ Below w1.heap.size w1 wz) ∨ (ki = .int .i64 1 ∧ (∃ u v, FdI (hitL ss a p.n L false m) (visD L.length 0) true u v ∧ Arr4 wz w1.heap.size u v 0 0) ∧ Below w1.heap.size w1 wz) ∨ (ki = .int .i64 2 ∧ (∃ u v u' v', FdI (hitL ss a p.n L false m) (visD L.length 0) true u v ∧ FdI (hitL ss a p.n L true n) (visD L.length 0) true u' v' ∧ Arr4 wz w1.heap.size u v u' v') ∧ Below w1.heap.size w1 wz)) (fun ki _ => 2 - (intOf ki).toNat)
  case atStart => exact .inl ⟨rfl, hA4, hx⟩
  case round =>
    clear hA4 hx hB1
    have hbo : Hid (∀ Y, Below w1.heap.size w1 Y → Y.cell? ⟨w.heap.size, 0, none⟩ = some (.int .i64 p.lo) ∧ Y.cell? ⟨w.heap.size, 1, none⟩ = some (.int .i64 p.hi) ∧ Y.cell? ⟨w.heap.size, 2, none⟩ = some (.slice p.a p.n p.cap)) := fun Y hY => by
      obtain ⟨z0, z1, z2⟩ := HQ.out.grown (BT hbe hY)
      exact ⟨z0, z1, z2⟩
    rcases hrel with ⟨rfl, hA, hB⟩ | ⟨rfl, ⟨u, v, hF0, hA⟩, hB⟩ | ⟨rfl, ⟨u, v, u1, v1, hF0, hF1, hA⟩, hB⟩
    · skip
      obtain ⟨wo, rfl⟩ : ∃ wo : World, wo = wr := ⟨_, rfl⟩
      go_upto_region 8 with fail
      go_cut [13] from 38 to 43 (fun x X => x = .int .i64 m ∧ Below wo.heap.size wo X)
      case first =>
        go_wp2_with fail
        go_meet
        exact ⟨rfl, by first | exact newB _ _ | exact BA (newB _ _) _⟩
      case rest =>
      obtain ⟨rfl, hbc⟩ := hcut
      obtain ⟨R1, rfl⟩ : ∃ R1 : World, R1 = wc := ⟨_, rfl⟩
      replace hA := hA.grown hbc
      replace hB := BT hB hbc
      clear hbc
      go_wp2_with fail
      go_loopw [14, 15] (fun f i wz => ∃ (fb : Bool) (j : Nat) (oa ob : Int), j ≤ L.length ∧ f = .bool fb ∧ i = .int .i64 j ∧ FdI (hitL ss a p.n L false m) (visD j 0) fb oa ob ∧ Arr4 wz w1.heap.size oa ob 0 0 ∧ Below w1.heap.size w1 wz) (fun _ i _ => L.length - (intOf i).toNat)
      case atStart => exact ⟨false, 0, 0, 0, by omega, rfl, rfl, vis_none _, hA, hB⟩
      case round =>
        clear hA hB
        obtain ⟨fb, j, oa, ob, hj, rfl, rfl, hF, hA, hB⟩ := hrel
        obtain ⟨wi, rfl⟩ : ∃ wi : World, wi = wr := ⟨_, rfl⟩
        have hj0 : (0 : Int) ≤ (j : Int) := by omega
        by_cases hlt : j < L.length
        · have hji : (j : Int) < (L.length : Int) := by omega
          obtain ⟨g, hsa, hg, hcl⟩ : ∃ g, sa = some ⟨g, 0, none⟩ ∧ g < w1.heap.size ∧ ∀ k, k < L.length → w1.cell? ⟨g, k, none⟩ = some (.int .i64 (L.getD k 0)) := by
            rcases HIN.out w1 (Below.refl _ _) with h | h
            · subst h; simp at hlt
            · exact h
          subst hsa
          have hcell : Hid (∀ Y, Below w1.heap.size w1 Y → Y.cell? ⟨g, j, none⟩ = some (.int .i64 (L.getD j 0))) := fun Y hY => (hY.cell (p := ⟨g, j, none⟩) hg).trans (hcl j hlt)
          obtain ⟨x1, x2⟩ := hrg j hlt
          have hcr := HCR.out false j hlt
          have HX := Lib.hid (fun Y => HC.out false j Y hlt)
          have HH : Hid (∀ x, (hitL ss a p.n L false m) j x = hitB (crR ss (L.getD j 0) a.testBit false p.n).1 (crR ss (L.getD j 0) a.testBit false p.n).2 m (L.getD j 0) x) := fun x => rfl
          clear hcl
          generalize crR ss (L.getD j 0) a.testBit false p.n = cr at *
          obtain ⟨c0, c1⟩ := cr
          dsimp only at hcr HX HH
          generalize L.getD j 0 = sc at *
          have HFD := Lib.hid hF
          clear hF
          go_upto_region 13 with fail
          go_cut [16] from 50 to 59 (fun x X => ∃ P : Nat, x = .pointer (some ⟨P, 0, none⟩) ∧ wi.heap.size ≤ P ∧ Spn2 X P c0 c1 ∧ Below wi.heap.size wi X)
          case first =>
            have hI13 : Hid (∀ Y, Below wi.heap.size wi Y → Y.cell? ⟨w.heap.size, 0, none⟩ = some (.int .i64 p.lo) ∧ Y.cell? ⟨w.heap.size, 1, none⟩ = some (.int .i64 p.hi) ∧ Y.cell? ⟨w.heap.size, 2, none⟩ = some (.slice p.a p.n p.cap) ∧ Y.cell? ⟨g, j, none⟩ = some (.int .i64 sc)) := fun Y hY => by
              obtain ⟨z0, z1, z2⟩ := hbo.out Y (BT hB hY)
              exact ⟨z0, z1, z2, hcell.out Y (BT hB hY)⟩
            have hb0 : Below wi.heap.size wi wi.drew := Below.drew (Below.refl _ _)
            refine wp_region_tree (.read 0 (.read 1 (.read 3 (.read 4 (.read 5 (.read 6 (.read 7 (.read 8 (.two 2 (.two 9 (.one 10 (.one 11 (.leaf))) 10 (.one 9 (.one 11 (.leaf)))) 10 (.one 2 (.one 9 (.one 11 (.leaf))))))))))))) (fun Y => Y.cell? ⟨w.heap.size, 0, none⟩ = some (.int .i64 p.lo) ∧ Y.cell? ⟨w.heap.size, 1, none⟩ = some (.int .i64 p.hi) ∧ Y.cell? ⟨w.heap.size, 2, none⟩ = some (.slice p.a p.n p.cap) ∧ Y.cell? ⟨g, j, none⟩ = some (.int .i64 sc)) (by kernel_rfl) (by kernel_rfl) (fun _ _ d _ _ h => by cases d <;> exact h) (hI13.out _ hb0) ?_
            refine tr_free (fun Q HQ => ?_)
            generalize wi.drew = Y0 at *
            repeat (first | (refine tr_read rfl (by rfl) _ (fun w' hS => by (try dsimp only at hS); go_simp; (try with_reducible rfl)) ?_; (try simp only [Act.put, List.setIfInBounds_toArray, List.set_cons_zero, List.set_cons_succ])) | (refine tr_skip rfl (by rfl) ?_; (try simp only [Act.put, List.setIfInBounds_toArray, List.set_cons_zero, List.set_cons_succ])))
            refine ⟨?_, ?_⟩
            · skip
              refine tr_step rfl (by rfl) (fun K hK => ?_)
              go_simp
              refine (HKN.out Y0 (BT HB0.out (BT hbe (BT hB hb0)))).mono ?_
              rintro e Y1 ⟨rfl, hx8⟩
              have hb1 := BT hb0 hx8
              refine hK _ _ (hI13.out _ hb1) ?_
              clear hK K hx8 hb0
              (try simp only [Act.put, List.setIfInBounds_toArray, List.set_cons_zero, List.set_cons_succ])
              refine ⟨?_, ?_⟩
              · skip
                refine tr_step rfl (by rfl) (fun K hK => ?_)
                go_simp
                refine (HX.out Y1 (BT HB0.out (BT hbe (BT hB hb1)))).mono ?_
                rintro e Y2 ⟨rfl, hx8⟩
                have hb2 := BT hb1 hx8
                refine hK _ _ (hI13.out _ hb2) ?_
                clear hK K hx8 hb1
                (try simp only [Act.put, List.setIfInBounds_toArray, List.set_cons_zero, List.set_cons_succ])
                refine tr_step rfl (by rfl) (fun K hK => ?_)
                have hx8 := newB Y2 (.cells #[.int .i64 0, .int .i64 0] 23)
                have hs10 := slots_new2r Y2 23
                have hb3 := BT hb2 hx8
                have hge10 := hb2.size
                go_simp
                refine hK _ _ (hI13.out _ hb3) ?_
                clear hK K hx8 hb2
                generalize Y2.heap.size = g10 at *
                generalize Y2.alloc (.cells #[.int .i64 0, .int .i64 0] 23) = Y3 at *
                (try simp only [Act.put, List.setIfInBounds_toArray, List.set_cons_zero, List.set_cons_succ])
                refine tr_step rfl (by rfl) (fun K hK => ?_)
                have ka := spn2_slots hs10 c0 c1
                have hb4 := BC (BC hb3 g10 0 hge10 (.int .i64 c0)) g10 1 hge10 (.int .i64 c1)
                obtain ⟨u0, q0, f0⟩ := hs10.get 0 (by omega)
                obtain ⟨u1, q1, f1⟩ := hs10.get 1 (by omega)
                go_simp
                refine hK _ _ (hI13.out _ hb4) ?_
                clear hK K u0 q0 f0 u1 q1 f1 hs10 hb3
                generalize (Y3.setCell ⟨g10, 0, none⟩ (.int .i64 c0)).setCell ⟨g10, 1, none⟩ (.int .i64 c1) = Y4 at *
                (try simp only [Act.put, List.setIfInBounds_toArray, List.set_cons_zero, List.set_cons_succ])
                refine HQ _ _ _ ?_
                show Exit.then _ _ Exit.normal _ _
                go_wp2_with fail
                go_meet
                exact ⟨g10, rfl, hge10, ka, hb4⟩
              · skip
                refine tr_step rfl (by rfl) (fun K hK => ?_)
                have hx8 := newB Y1 (.cells #[.int .i64 0, .int .i64 0] 23)
                have hs10 := slots_new2r Y1 23
                have hb5 := BT hb1 hx8
                have hge10 := hb1.size
                go_simp
                refine hK _ _ (hI13.out _ hb5) ?_
                clear hK K hx8 hb1
                generalize Y1.heap.size = g10 at *
                generalize Y1.alloc (.cells #[.int .i64 0, .int .i64 0] 23) = Y5 at *
                (try simp only [Act.put, List.setIfInBounds_toArray, List.set_cons_zero, List.set_cons_succ])
                refine tr_step rfl (by rfl) (fun K hK => ?_)
                go_simp
                refine (HX.out Y5 (BT HB0.out (BT hbe (BT hB hb5)))).mono ?_
                rintro e Y6 ⟨rfl, hx8⟩
                have hb6 := BT hb5 hx8
                replace hs10 := hs10.below hx8 hs10.lt2r
                refine hK _ _ (hI13.out _ hb6) ?_
                clear hK K hx8 hb5
                (try simp only [Act.put, List.setIfInBounds_toArray, List.set_cons_zero, List.set_cons_succ])
                refine tr_step rfl (by rfl) (fun K hK => ?_)
                have ka := spn2_slots hs10 c0 c1
                have hb7 := BC (BC hb6 g10 0 hge10 (.int .i64 c0)) g10 1 hge10 (.int .i64 c1)
                obtain ⟨u0, q0, f0⟩ := hs10.get 0 (by omega)
                obtain ⟨u1, q1, f1⟩ := hs10.get 1 (by omega)
                go_simp
                refine hK _ _ (hI13.out _ hb7) ?_
                clear hK K u0 q0 f0 u1 q1 f1 hs10 hb6
                generalize (Y6.setCell ⟨g10, 0, none⟩ (.int .i64 c0)).setCell ⟨g10, 1, none⟩ (.int .i64 c1) = Y7 at *
                (try simp only [Act.put, List.setIfInBounds_toArray, List.set_cons_zero, List.set_cons_succ])
                refine HQ _ _ _ ?_
                show Exit.then _ _ Exit.normal _ _
                go_wp2_with fail
                go_meet
                exact ⟨g10, rfl, hge10, ka, hb7⟩
            · skip
              refine tr_step rfl (by rfl) (fun K hK => ?_)
              have hx8 := newB Y0 (.cells #[.int .i64 0, .int .i64 0] 23)
              have hs10 := slots_new2r Y0 23
              have hb8 := BT hb0 hx8
              have hge10 := hb0.size
              go_simp
              refine hK _ _ (hI13.out _ hb8) ?_
              clear hK K hx8 hb0
              generalize Y0.heap.size = g10 at *
              generalize Y0.alloc (.cells #[.int .i64 0, .int .i64 0] 23) = Y8 at *
              (try simp only [Act.put, List.setIfInBounds_toArray, List.set_cons_zero, List.set_cons_succ])
              refine tr_step rfl (by rfl) (fun K hK => ?_)
              go_simp
              refine (HKN.out Y8 (BT HB0.out (BT hbe (BT hB hb8)))).mono ?_
              rintro e Y9 ⟨rfl, hx8⟩
              have hb9 := BT hb8 hx8
              replace hs10 := hs10.below hx8 hs10.lt2r
              refine hK _ _ (hI13.out _ hb9) ?_
              clear hK K hx8 hb8
              (try simp only [Act.put, List.setIfInBounds_toArray, List.set_cons_zero, List.set_cons_succ])
              refine tr_step rfl (by rfl) (fun K hK => ?_)
              go_simp
              refine (HX.out Y9 (BT HB0.out (BT hbe (BT hB hb9)))).mono ?_
              rintro e Y10 ⟨rfl, hx8⟩
              have hb10 := BT hb9 hx8
              replace hs10 := hs10.below hx8 hs10.lt2r
              refine hK _ _ (hI13.out _ hb10) ?_
              clear hK K hx8 hb9
              (try simp only [Act.put, List.setIfInBounds_toArray, List.set_cons_zero, List.set_cons_succ])
              refine tr_step rfl (by rfl) (fun K hK => ?_)
              have ka := spn2_slots hs10 c0 c1
              have hb11 := BC (BC hb10 g10 0 hge10 (.int .i64 c0)) g10 1 hge10 (.int .i64 c1)
              obtain ⟨u0, q0, f0⟩ := hs10.get 0 (by omega)
              obtain ⟨u1, q1, f1⟩ := hs10.get 1 (by omega)
              go_simp
              refine hK _ _ (hI13.out _ hb11) ?_
              clear hK K u0 q0 f0 u1 q1 f1 hs10 hb10
              generalize (Y10.setCell ⟨g10, 0, none⟩ (.int .i64 c0)).setCell ⟨g10, 1, none⟩ (.int .i64 c1) = Y11 at *
              (try simp only [Act.put, List.setIfInBounds_toArray, List.set_cons_zero, List.set_cons_succ])
              refine HQ _ _ _ ?_
              show Exit.then _ _ Exit.normal _ _
              go_wp2_with fail
              go_meet
              exact ⟨g10, rfl, hge10, ka, hb11⟩
          case rest =>
          obtain ⟨P, rfl, hgP, kP, hbc⟩ := hcut
          obtain ⟨R2, rfl⟩ : ∃ R2 : World, R2 = wc := ⟨_, rfl⟩
          have hltO : w1.heap.size < wi.heap.size := World.block_lt_of_cell? _ _ hA.c0
          replace hA := hA.grown hbc
          replace hB := BT hB hbc
          clear hbc
          have hPO : w1.heap.size ≠ P := by omega
          have hF := HFD.out
          go_wp2_with fail
          go_loopw [14, 17] (fun f xi wz => ∃ (fb2 : Bool) (x oa2 ob2 : Int), (0 ≤ x ∧ x ≤ 32769) ∧ f = .bool fb2 ∧ xi = .int .i64 x ∧ FdI (hitL ss a p.n L false m) (visD j x) fb2 oa2 ob2 ∧ Arr4 wz w1.heap.size oa2 ob2 0 0 ∧ Spn2 wz P c0 c1 ∧ Below w1.heap.size w1 wz) (fun _ xi _ => (32769 - intOf xi).toNat)
          case atStart => exact ⟨fb, 0, oa, ob, by omega, rfl, rfl, hF, hA, kP, hB⟩
          case round =>
            clear hA hB kP hF HFD
            obtain ⟨f2, x, oa2, ob2, ⟨hx0, hx1⟩, rfl, rfl, hF, hA, kP, hB⟩ := hrel
            obtain ⟨wx, rfl⟩ : ∃ wx : World, wx = wr := ⟨_, rfl⟩
            by_cases hx : x ≤ 32768
            · have n0 := Int.mul_nonneg (show 0 ≤ sc by omega) hx0
              have n1 := Int.mul_le_mul x2 hx hx0 (by omega : (0 : Int) ≤ 1000)
              have hhx := HH.out x
              unfold hitB at hhx
              obtain ⟨y, hy⟩ : ∃ y, sc * x = y := ⟨_, rfl⟩
              rw [hy] at n0 n1 hhx
              have q1 : y.tdiv 1000 = y / 1000 := Int.tdiv_eq_ediv_of_nonneg n0
              obtain ⟨q, hq⟩ : ∃ q, y / 1000 = q := ⟨_, rfl⟩
              have q2 : 0 ≤ q ∧ q ≤ 32768 := by omega
              rw [hq] at hhx q1
              have e1 : IntKind.i64.wrap (sc * x) = y := by rw [hy]; exact IntWalk.i64_in _ (by omega)
              have e2 : IntKind.i64.wrap q = q := IntWalk.i64_in _ (by omega)
              have e3 : IntKind.i64.wrap (m - q) = m - q := IntWalk.i64_in _ (by omega)
              have e4 : IntKind.i64.wrap (x + 1) = x + 1 := IntWalk.i64_in _ (by omega)
              obtain ⟨bh, hbh⟩ : ∃ bh, (decide (c0 ≤ m - q) && decide (m - q ≤ c1)) = bh := ⟨_, rfl⟩
              rw [hbh] at hhx
              have HIN2 : Hid (∀ Y, Calls Tryz.prog 66 #[.int .i64 (m - q), .int .i64 c0, .int .i64 c1] Y (Ret (.bool bh) Y)) := fun Y => by
                have h := in_any (m - q) c0 c1 Y
                rw [hbh] at h; exact h
              have HHX := Lib.hid hhx
              have HFD := Lib.hid hF
              clear hbh hhx hF hy hq n0 n1
              have hI17 : Hid (∀ Y, Below wx.heap.size wx Y → Y.cell? ⟨g, j, none⟩ = some (.int .i64 sc) ∧ Y.cell? ⟨P, 0, none⟩ = some (.int .i64 c0) ∧ Y.cell? ⟨P, 1, none⟩ = some (.int .i64 c1)) := fun Y hY => ⟨hcell.out Y (BT hB hY), (kP.grown hY).c0, (kP.grown hY).c1⟩
              have hb0 : Below wx.heap.size wx wx.drew := Below.drew (Below.refl _ _)
              go_upto_region 17 with fail
              refine wp_region_seq [(0, true), (1, true), (2, true), (3, true), (4, true), (5, true), (6, true), (7, true), (8, true), (9, true), (10, true), (11, true), (12, true), (13, false)] (fun Y => Y.cell? ⟨g, j, none⟩ = some (.int .i64 sc) ∧ Y.cell? ⟨P, 0, none⟩ = some (.int .i64 c0) ∧ Y.cell? ⟨P, 1, none⟩ = some (.int .i64 c1)) (by kernel_rfl) (by kernel_rfl) (fun _ _ d _ _ h => by cases d <;> exact h) (hI17.out _ hb0) ?_
              refine seq_free (fun F HF Q HQ => ?_)
              generalize wx.drew = X0 at *
              repeat (first | (refine seq_read rfl (by rfl) _ (fun w' hS => by (try dsimp only at hS); go_simp; (try with_reducible rfl)) ?_; (try simp only [Act.put, List.setIfInBounds_toArray, List.set_cons_zero, List.set_cons_succ])) | (refine seq_skip rfl (by rfl) ?_; (try simp only [Act.put, List.setIfInBounds_toArray, List.set_cons_zero, List.set_cons_succ])))
              (try rw [q1])
              refine seq_do rfl (by rfl) (fun K hK => ?_)
              go_simp
              refine (HIN2.out X0).mono ?_
              rintro e X1 ⟨rfl, hz⟩
              have hb1 := BT hb0 hz
              refine hK _ _ (hI17.out _ hb1) ?_
              clear hK K hz
              (try simp only [Act.put, List.setIfInBounds_toArray, List.set_cons_zero, List.set_cons_succ])
              apply seq_end
              refine HF _ _ ?_
              first | show Exit.inBlock _ _ Exit.normal _ _ | show Exit.then _ _ Exit.normal _ _ | skip
              replace hA := hA.grown hb1
              replace kP := kP.grown hb1
              replace hB := BT hB hb1
              clear hI17 hb0 hb1 F HF Q HQ HIN2
              cases bh
              · have hF := HFD.out.miss HHX.out (vis_step j x hx0)
                go_wp2_with fail
                go_roundw
                case rel => exact ⟨f2, x + 1, oa2, ob2, by omega, rfl, by go_num, hF, hA, kP, hB⟩
                case measure => simp [intOf]; omega
              · have hF := HFD.out.hit HHX.out (vis_step j x hx0)
                clear HFD
                obtain ⟨a0, a1, a2, a3, -, -, -, -⟩ := id hA
                go_wp2_with fail
                clear a0 a1 a2 a3
                refine (hull_any oa2 ob2 x x (!f2) X1).mono ?_
                rintro e X2 ⟨rfl, hz⟩
                replace hA := hA.grown hz
                replace kP := kP.grown hz
                replace hB := BT hB hz
                generalize (if !f2 then x else min oa2 x) = na at *
                generalize (if !f2 then x else max ob2 x) = nb at *
                have hA2 := hA.set0 na nb
                have kP2 := (kP.put (B := w1.heap.size) (fun h => hPO h.symm) 0 (.int .i64 na)).put (B := w1.heap.size) (fun h => hPO h.symm) 1 (.int .i64 nb)
                have hB2 := BC (BC hB w1.heap.size 0 (Nat.le_refl _) (.int .i64 na)) w1.heap.size 1 (Nat.le_refl _) (.int .i64 nb)
                obtain ⟨a0, a1, a2, a3, z0, z1, z2, z3⟩ := id hA
                clear hA kP hB hz
                go_wp2_with fail
                go_roundw
                case rel => exact ⟨true, x + 1, na, nb, by omega, rfl, by go_num, hF, hA2, kP2, hB2⟩
                case measure => simp [intOf]; omega
            · obtain rfl : x = 32769 := by omega
              have hF2 := hF.ext (vis_next j)
              clear hF
              go_wp2_with fail
              go_roundw
              case rel => exact ⟨f2, j + 1, oa2, ob2, by omega, rfl, by go_num, hF2, hA, hB⟩
              case measure => simp [intOf]; omega
        · obtain rfl : j = L.length := by omega
          cases fb
          · have hrv := HNO0.out oa ob hF
            subst hrv
            have hbr := BT hbe hB
            have hs1 := HS1.out.below hbr hl1
            have hs2 := HS2.out.below hbr hl0
            obtain ⟨u0, r0, f0⟩ := hs1.get 0 (by omega)
            obtain ⟨u1, r1, f1⟩ := hs1.get 1 (by omega)
            obtain ⟨v0, t0, g0⟩ := hs2.get 0 (by omega)
            obtain ⟨v1, t1, g1⟩ := hs2.get 1 (by omega)
            have hfin := BC (BC (BC (BC (BT HB0.out hbr) (w.heap.size + 1) 0 (by omega) (.int .i64 0)) (w.heap.size + 1) 1 (by omega) (.int .i64 0)) (w.heap.size + 1 + 1) 0 (by omega) (.int .i64 0)) (w.heap.size + 1 + 1) 1 (by omega) (.int .i64 0)
            clear hs1 hs2
            go_wp2_with fail
            exact bodyPost_ret (v := .tuple #[.agg #[.int .i64 0, .int .i64 0], .agg #[.int .i64 0, .int .i64 0], .int .i64 4]) (by simp [results, Tryz.results18, go_sem, r0, r1, t0, t1]) rfl ⟨rfl, hfin⟩
          · go_wp2_with fail
            go_roundw
            case rel => exact .inr (.inl ⟨rfl, ⟨oa, ob, hF, hA⟩, hB⟩)
            case measure => simp [intOf]
    · skip
      obtain ⟨wo, rfl⟩ : ∃ wo : World, wo = wr := ⟨_, rfl⟩
      go_upto_region 8 with fail
      go_cut [13] from 38 to 43 (fun x X => x = .int .i64 n ∧ Below wo.heap.size wo X)
      case first =>
        go_wp2_with fail
        go_meet
        exact ⟨rfl, by first | exact newB _ _ | exact BA (newB _ _) _⟩
      case rest =>
      obtain ⟨rfl, hbc⟩ := hcut
      obtain ⟨R1, rfl⟩ : ∃ R1 : World, R1 = wc := ⟨_, rfl⟩
      replace hA := hA.grown hbc
      replace hB := BT hB hbc
      clear hbc
      go_wp2_with fail
      go_loopw [14, 15] (fun f i wz => ∃ (fb : Bool) (j : Nat) (oa ob : Int), j ≤ L.length ∧ f = .bool fb ∧ i = .int .i64 j ∧ FdI (hitL ss a p.n L true n) (visD j 0) fb oa ob ∧ Arr4 wz w1.heap.size u v oa ob ∧ Below w1.heap.size w1 wz) (fun _ i _ => L.length - (intOf i).toNat)
      case atStart => exact ⟨false, 0, 0, 0, by omega, rfl, rfl, vis_none _, hA, hB⟩
      case round =>
        clear hA hB
        obtain ⟨fb, j, oa, ob, hj, rfl, rfl, hF, hA, hB⟩ := hrel
        obtain ⟨wi, rfl⟩ : ∃ wi : World, wi = wr := ⟨_, rfl⟩
        have hj0 : (0 : Int) ≤ (j : Int) := by omega
        by_cases hlt : j < L.length
        · have hji : (j : Int) < (L.length : Int) := by omega
          obtain ⟨g, hsa, hg, hcl⟩ : ∃ g, sa = some ⟨g, 0, none⟩ ∧ g < w1.heap.size ∧ ∀ k, k < L.length → w1.cell? ⟨g, k, none⟩ = some (.int .i64 (L.getD k 0)) := by
            rcases HIN.out w1 (Below.refl _ _) with h | h
            · subst h; simp at hlt
            · exact h
          subst hsa
          have hcell : Hid (∀ Y, Below w1.heap.size w1 Y → Y.cell? ⟨g, j, none⟩ = some (.int .i64 (L.getD j 0))) := fun Y hY => (hY.cell (p := ⟨g, j, none⟩) hg).trans (hcl j hlt)
          obtain ⟨x1, x2⟩ := hrg j hlt
          have hcr := HCR.out true j hlt
          have HX := Lib.hid (fun Y => HC.out true j Y hlt)
          have HH : Hid (∀ x, (hitL ss a p.n L true n) j x = hitB (crR ss (L.getD j 0) a.testBit true p.n).1 (crR ss (L.getD j 0) a.testBit true p.n).2 n (L.getD j 0) x) := fun x => rfl
          clear hcl
          generalize crR ss (L.getD j 0) a.testBit true p.n = cr at *
          obtain ⟨c0, c1⟩ := cr
          dsimp only at hcr HX HH
          generalize L.getD j 0 = sc at *
          have HFD := Lib.hid hF
          clear hF
          go_upto_region 13 with fail
          go_cut [16] from 50 to 59 (fun x X => ∃ P : Nat, x = .pointer (some ⟨P, 0, none⟩) ∧ wi.heap.size ≤ P ∧ Spn2 X P c0 c1 ∧ Below wi.heap.size wi X)
          case first =>
            have hI13 : Hid (∀ Y, Below wi.heap.size wi Y → Y.cell? ⟨w.heap.size, 0, none⟩ = some (.int .i64 p.lo) ∧ Y.cell? ⟨w.heap.size, 1, none⟩ = some (.int .i64 p.hi) ∧ Y.cell? ⟨w.heap.size, 2, none⟩ = some (.slice p.a p.n p.cap) ∧ Y.cell? ⟨g, j, none⟩ = some (.int .i64 sc)) := fun Y hY => by
              obtain ⟨z0, z1, z2⟩ := hbo.out Y (BT hB hY)
              exact ⟨z0, z1, z2, hcell.out Y (BT hB hY)⟩
            have hb0 : Below wi.heap.size wi wi.drew := Below.drew (Below.refl _ _)
            refine wp_region_tree (.read 0 (.read 1 (.read 3 (.read 4 (.read 5 (.read 6 (.read 7 (.read 8 (.two 2 (.two 9 (.one 10 (.one 11 (.leaf))) 10 (.one 9 (.one 11 (.leaf)))) 10 (.one 2 (.one 9 (.one 11 (.leaf))))))))))))) (fun Y => Y.cell? ⟨w.heap.size, 0, none⟩ = some (.int .i64 p.lo) ∧ Y.cell? ⟨w.heap.size, 1, none⟩ = some (.int .i64 p.hi) ∧ Y.cell? ⟨w.heap.size, 2, none⟩ = some (.slice p.a p.n p.cap) ∧ Y.cell? ⟨g, j, none⟩ = some (.int .i64 sc)) (by kernel_rfl) (by kernel_rfl) (fun _ _ d _ _ h => by cases d <;> exact h) (hI13.out _ hb0) ?_
            refine tr_free (fun Q HQ => ?_)
            generalize wi.drew = Y0 at *
            repeat (first | (refine tr_read rfl (by rfl) _ (fun w' hS => by (try dsimp only at hS); go_simp; (try with_reducible rfl)) ?_; (try simp only [Act.put, List.setIfInBounds_toArray, List.set_cons_zero, List.set_cons_succ])) | (refine tr_skip rfl (by rfl) ?_; (try simp only [Act.put, List.setIfInBounds_toArray, List.set_cons_zero, List.set_cons_succ])))
            refine ⟨?_, ?_⟩
            · skip
              refine tr_step rfl (by rfl) (fun K hK => ?_)
              go_simp
              refine (HKN.out Y0 (BT HB0.out (BT hbe (BT hB hb0)))).mono ?_
              rintro e Y1 ⟨rfl, hx8⟩
              have hb1 := BT hb0 hx8
              refine hK _ _ (hI13.out _ hb1) ?_
              clear hK K hx8 hb0
              (try simp only [Act.put, List.setIfInBounds_toArray, List.set_cons_zero, List.set_cons_succ])
              refine ⟨?_, ?_⟩
              · skip
                refine tr_step rfl (by rfl) (fun K hK => ?_)
                go_simp
                refine (HX.out Y1 (BT HB0.out (BT hbe (BT hB hb1)))).mono ?_
                rintro e Y2 ⟨rfl, hx8⟩
                have hb2 := BT hb1 hx8
                refine hK _ _ (hI13.out _ hb2) ?_
                clear hK K hx8 hb1
                (try simp only [Act.put, List.setIfInBounds_toArray, List.set_cons_zero, List.set_cons_succ])
                refine tr_step rfl (by rfl) (fun K hK => ?_)
                have hx8 := newB Y2 (.cells #[.int .i64 0, .int .i64 0] 23)
                have hs10 := slots_new2r Y2 23
                have hb3 := BT hb2 hx8
                have hge10 := hb2.size
                go_simp
                refine hK _ _ (hI13.out _ hb3) ?_
                clear hK K hx8 hb2
                generalize Y2.heap.size = g10 at *
                generalize Y2.alloc (.cells #[.int .i64 0, .int .i64 0] 23) = Y3 at *
                (try simp only [Act.put, List.setIfInBounds_toArray, List.set_cons_zero, List.set_cons_succ])
                refine tr_step rfl (by rfl) (fun K hK => ?_)
                have ka := spn2_slots hs10 c0 c1
                have hb4 := BC (BC hb3 g10 0 hge10 (.int .i64 c0)) g10 1 hge10 (.int .i64 c1)
                obtain ⟨u0, q0, f0⟩ := hs10.get 0 (by omega)
                obtain ⟨u1, q1, f1⟩ := hs10.get 1 (by omega)
                go_simp
                refine hK _ _ (hI13.out _ hb4) ?_
                clear hK K u0 q0 f0 u1 q1 f1 hs10 hb3
                generalize (Y3.setCell ⟨g10, 0, none⟩ (.int .i64 c0)).setCell ⟨g10, 1, none⟩ (.int .i64 c1) = Y4 at *
                (try simp only [Act.put, List.setIfInBounds_toArray, List.set_cons_zero, List.set_cons_succ])
                refine HQ _ _ _ ?_
                show Exit.then _ _ Exit.normal _ _
                go_wp2_with fail
                go_meet
                exact ⟨g10, rfl, hge10, ka, hb4⟩
              · skip
                refine tr_step rfl (by rfl) (fun K hK => ?_)
                have hx8 := newB Y1 (.cells #[.int .i64 0, .int .i64 0] 23)
                have hs10 := slots_new2r Y1 23
                have hb5 := BT hb1 hx8
                have hge10 := hb1.size
                go_simp
                refine hK _ _ (hI13.out _ hb5) ?_
                clear hK K hx8 hb1
                generalize Y1.heap.size = g10 at *
                generalize Y1.alloc (.cells #[.int .i64 0, .int .i64 0] 23) = Y5 at *
                (try simp only [Act.put, List.setIfInBounds_toArray, List.set_cons_zero, List.set_cons_succ])
                refine tr_step rfl (by rfl) (fun K hK => ?_)
                go_simp
                refine (HX.out Y5 (BT HB0.out (BT hbe (BT hB hb5)))).mono ?_
                rintro e Y6 ⟨rfl, hx8⟩
                have hb6 := BT hb5 hx8
                replace hs10 := hs10.below hx8 hs10.lt2r
                refine hK _ _ (hI13.out _ hb6) ?_
                clear hK K hx8 hb5
                (try simp only [Act.put, List.setIfInBounds_toArray, List.set_cons_zero, List.set_cons_succ])
                refine tr_step rfl (by rfl) (fun K hK => ?_)
                have ka := spn2_slots hs10 c0 c1
                have hb7 := BC (BC hb6 g10 0 hge10 (.int .i64 c0)) g10 1 hge10 (.int .i64 c1)
                obtain ⟨u0, q0, f0⟩ := hs10.get 0 (by omega)
                obtain ⟨u1, q1, f1⟩ := hs10.get 1 (by omega)
                go_simp
                refine hK _ _ (hI13.out _ hb7) ?_
                clear hK K u0 q0 f0 u1 q1 f1 hs10 hb6
                generalize (Y6.setCell ⟨g10, 0, none⟩ (.int .i64 c0)).setCell ⟨g10, 1, none⟩ (.int .i64 c1) = Y7 at *
                (try simp only [Act.put, List.setIfInBounds_toArray, List.set_cons_zero, List.set_cons_succ])
                refine HQ _ _ _ ?_
                show Exit.then _ _ Exit.normal _ _
                go_wp2_with fail
                go_meet
                exact ⟨g10, rfl, hge10, ka, hb7⟩
            · skip
              refine tr_step rfl (by rfl) (fun K hK => ?_)
              have hx8 := newB Y0 (.cells #[.int .i64 0, .int .i64 0] 23)
              have hs10 := slots_new2r Y0 23
              have hb8 := BT hb0 hx8
              have hge10 := hb0.size
              go_simp
              refine hK _ _ (hI13.out _ hb8) ?_
              clear hK K hx8 hb0
              generalize Y0.heap.size = g10 at *
              generalize Y0.alloc (.cells #[.int .i64 0, .int .i64 0] 23) = Y8 at *
              (try simp only [Act.put, List.setIfInBounds_toArray, List.set_cons_zero, List.set_cons_succ])
              refine tr_step rfl (by rfl) (fun K hK => ?_)
              go_simp
              refine (HKN.out Y8 (BT HB0.out (BT hbe (BT hB hb8)))).mono ?_
              rintro e Y9 ⟨rfl, hx8⟩
              have hb9 := BT hb8 hx8
              replace hs10 := hs10.below hx8 hs10.lt2r
              refine hK _ _ (hI13.out _ hb9) ?_
              clear hK K hx8 hb8
              (try simp only [Act.put, List.setIfInBounds_toArray, List.set_cons_zero, List.set_cons_succ])
              refine tr_step rfl (by rfl) (fun K hK => ?_)
              go_simp
              refine (HX.out Y9 (BT HB0.out (BT hbe (BT hB hb9)))).mono ?_
              rintro e Y10 ⟨rfl, hx8⟩
              have hb10 := BT hb9 hx8
              replace hs10 := hs10.below hx8 hs10.lt2r
              refine hK _ _ (hI13.out _ hb10) ?_
              clear hK K hx8 hb9
              (try simp only [Act.put, List.setIfInBounds_toArray, List.set_cons_zero, List.set_cons_succ])
              refine tr_step rfl (by rfl) (fun K hK => ?_)
              have ka := spn2_slots hs10 c0 c1
              have hb11 := BC (BC hb10 g10 0 hge10 (.int .i64 c0)) g10 1 hge10 (.int .i64 c1)
              obtain ⟨u0, q0, f0⟩ := hs10.get 0 (by omega)
              obtain ⟨u1, q1, f1⟩ := hs10.get 1 (by omega)
              go_simp
              refine hK _ _ (hI13.out _ hb11) ?_
              clear hK K u0 q0 f0 u1 q1 f1 hs10 hb10
              generalize (Y10.setCell ⟨g10, 0, none⟩ (.int .i64 c0)).setCell ⟨g10, 1, none⟩ (.int .i64 c1) = Y11 at *
              (try simp only [Act.put, List.setIfInBounds_toArray, List.set_cons_zero, List.set_cons_succ])
              refine HQ _ _ _ ?_
              show Exit.then _ _ Exit.normal _ _
              go_wp2_with fail
              go_meet
              exact ⟨g10, rfl, hge10, ka, hb11⟩
          case rest =>
          obtain ⟨P, rfl, hgP, kP, hbc⟩ := hcut
          obtain ⟨R2, rfl⟩ : ∃ R2 : World, R2 = wc := ⟨_, rfl⟩
          have hltO : w1.heap.size < wi.heap.size := World.block_lt_of_cell? _ _ hA.c0
          replace hA := hA.grown hbc
          replace hB := BT hB hbc
          clear hbc
          have hPO : w1.heap.size ≠ P := by omega
          have hF := HFD.out
          go_wp2_with fail
          go_loopw [14, 17] (fun f xi wz => ∃ (fb2 : Bool) (x oa2 ob2 : Int), (0 ≤ x ∧ x ≤ 32769) ∧ f = .bool fb2 ∧ xi = .int .i64 x ∧ FdI (hitL ss a p.n L true n) (visD j x) fb2 oa2 ob2 ∧ Arr4 wz w1.heap.size u v oa2 ob2 ∧ Spn2 wz P c0 c1 ∧ Below w1.heap.size w1 wz) (fun _ xi _ => (32769 - intOf xi).toNat)
          case atStart => exact ⟨fb, 0, oa, ob, by omega, rfl, rfl, hF, hA, kP, hB⟩
          case round =>
            clear hA hB kP hF HFD
            obtain ⟨f2, x, oa2, ob2, ⟨hx0, hx1⟩, rfl, rfl, hF, hA, kP, hB⟩ := hrel
            obtain ⟨wx, rfl⟩ : ∃ wx : World, wx = wr := ⟨_, rfl⟩
            by_cases hx : x ≤ 32768
            · have n0 := Int.mul_nonneg (show 0 ≤ sc by omega) hx0
              have n1 := Int.mul_le_mul x2 hx hx0 (by omega : (0 : Int) ≤ 1000)
              have hhx := HH.out x
              unfold hitB at hhx
              obtain ⟨y, hy⟩ : ∃ y, sc * x = y := ⟨_, rfl⟩
              rw [hy] at n0 n1 hhx
              have q1 : y.tdiv 1000 = y / 1000 := Int.tdiv_eq_ediv_of_nonneg n0
              obtain ⟨q, hq⟩ : ∃ q, y / 1000 = q := ⟨_, rfl⟩
              have q2 : 0 ≤ q ∧ q ≤ 32768 := by omega
              rw [hq] at hhx q1
              have e1 : IntKind.i64.wrap (sc * x) = y := by rw [hy]; exact IntWalk.i64_in _ (by omega)
              have e2 : IntKind.i64.wrap q = q := IntWalk.i64_in _ (by omega)
              have e3 : IntKind.i64.wrap (n - q) = n - q := IntWalk.i64_in _ (by omega)
              have e4 : IntKind.i64.wrap (x + 1) = x + 1 := IntWalk.i64_in _ (by omega)
              obtain ⟨bh, hbh⟩ : ∃ bh, (decide (c0 ≤ n - q) && decide (n - q ≤ c1)) = bh := ⟨_, rfl⟩
              rw [hbh] at hhx
              have HIN2 : Hid (∀ Y, Calls Tryz.prog 66 #[.int .i64 (n - q), .int .i64 c0, .int .i64 c1] Y (Ret (.bool bh) Y)) := fun Y => by
                have h := in_any (n - q) c0 c1 Y
                rw [hbh] at h; exact h
              have HHX := Lib.hid hhx
              have HFD := Lib.hid hF
              clear hbh hhx hF hy hq n0 n1
              have hI17 : Hid (∀ Y, Below wx.heap.size wx Y → Y.cell? ⟨g, j, none⟩ = some (.int .i64 sc) ∧ Y.cell? ⟨P, 0, none⟩ = some (.int .i64 c0) ∧ Y.cell? ⟨P, 1, none⟩ = some (.int .i64 c1)) := fun Y hY => ⟨hcell.out Y (BT hB hY), (kP.grown hY).c0, (kP.grown hY).c1⟩
              have hb0 : Below wx.heap.size wx wx.drew := Below.drew (Below.refl _ _)
              go_upto_region 17 with fail
              refine wp_region_seq [(0, true), (1, true), (2, true), (3, true), (4, true), (5, true), (6, true), (7, true), (8, true), (9, true), (10, true), (11, true), (12, true), (13, false)] (fun Y => Y.cell? ⟨g, j, none⟩ = some (.int .i64 sc) ∧ Y.cell? ⟨P, 0, none⟩ = some (.int .i64 c0) ∧ Y.cell? ⟨P, 1, none⟩ = some (.int .i64 c1)) (by kernel_rfl) (by kernel_rfl) (fun _ _ d _ _ h => by cases d <;> exact h) (hI17.out _ hb0) ?_
              refine seq_free (fun F HF Q HQ => ?_)
              generalize wx.drew = X0 at *
              repeat (first | (refine seq_read rfl (by rfl) _ (fun w' hS => by (try dsimp only at hS); go_simp; (try with_reducible rfl)) ?_; (try simp only [Act.put, List.setIfInBounds_toArray, List.set_cons_zero, List.set_cons_succ])) | (refine seq_skip rfl (by rfl) ?_; (try simp only [Act.put, List.setIfInBounds_toArray, List.set_cons_zero, List.set_cons_succ])))
              (try rw [q1])
              refine seq_do rfl (by rfl) (fun K hK => ?_)
              go_simp
              refine (HIN2.out X0).mono ?_
              rintro e X1 ⟨rfl, hz⟩
              have hb1 := BT hb0 hz
              refine hK _ _ (hI17.out _ hb1) ?_
              clear hK K hz
              (try simp only [Act.put, List.setIfInBounds_toArray, List.set_cons_zero, List.set_cons_succ])
              apply seq_end
              refine HF _ _ ?_
              first | show Exit.inBlock _ _ Exit.normal _ _ | show Exit.then _ _ Exit.normal _ _ | skip
              replace hA := hA.grown hb1
              replace kP := kP.grown hb1
              replace hB := BT hB hb1
              clear hI17 hb0 hb1 F HF Q HQ HIN2
              cases bh
              · have hF := HFD.out.miss HHX.out (vis_step j x hx0)
                go_wp2_with fail
                go_roundw
                case rel => exact ⟨f2, x + 1, oa2, ob2, by omega, rfl, by go_num, hF, hA, kP, hB⟩
                case measure => simp [intOf]; omega
              · have hF := HFD.out.hit HHX.out (vis_step j x hx0)
                clear HFD
                obtain ⟨a0, a1, a2, a3, -, -, -, -⟩ := id hA
                go_wp2_with fail
                clear a0 a1 a2 a3
                refine (hull_any oa2 ob2 x x (!f2) X1).mono ?_
                rintro e X2 ⟨rfl, hz⟩
                replace hA := hA.grown hz
                replace kP := kP.grown hz
                replace hB := BT hB hz
                generalize (if !f2 then x else min oa2 x) = na at *
                generalize (if !f2 then x else max ob2 x) = nb at *
                have hA2 := hA.set2 na nb
                have kP2 := (kP.put (B := w1.heap.size) (fun h => hPO h.symm) 2 (.int .i64 na)).put (B := w1.heap.size) (fun h => hPO h.symm) 3 (.int .i64 nb)
                have hB2 := BC (BC hB w1.heap.size 2 (Nat.le_refl _) (.int .i64 na)) w1.heap.size 3 (Nat.le_refl _) (.int .i64 nb)
                obtain ⟨a0, a1, a2, a3, z0, z1, z2, z3⟩ := id hA
                clear hA kP hB hz
                go_wp2_with fail
                go_roundw
                case rel => exact ⟨true, x + 1, na, nb, by omega, rfl, by go_num, hF, hA2, kP2, hB2⟩
                case measure => simp [intOf]; omega
            · obtain rfl : x = 32769 := by omega
              have hF2 := hF.ext (vis_next j)
              clear hF
              go_wp2_with fail
              go_roundw
              case rel => exact ⟨f2, j + 1, oa2, ob2, by omega, rfl, by go_num, hF2, hA, hB⟩
              case measure => simp [intOf]; omega
        · obtain rfl : j = L.length := by omega
          cases fb
          · have hrv := HNO1.out u v oa ob hF0 hF
            subst hrv
            have hbr := BT hbe hB
            have hs1 := HS1.out.below hbr hl1
            have hs2 := HS2.out.below hbr hl0
            obtain ⟨u0, r0, f0⟩ := hs1.get 0 (by omega)
            obtain ⟨u1, r1, f1⟩ := hs1.get 1 (by omega)
            obtain ⟨v0, t0, g0⟩ := hs2.get 0 (by omega)
            obtain ⟨v1, t1, g1⟩ := hs2.get 1 (by omega)
            have hfin := BC (BC (BC (BC (BT HB0.out hbr) (w.heap.size + 1) 0 (by omega) (.int .i64 0)) (w.heap.size + 1) 1 (by omega) (.int .i64 0)) (w.heap.size + 1 + 1) 0 (by omega) (.int .i64 0)) (w.heap.size + 1 + 1) 1 (by omega) (.int .i64 0)
            clear hs1 hs2
            go_wp2_with fail
            exact bodyPost_ret (v := .tuple #[.agg #[.int .i64 0, .int .i64 0], .agg #[.int .i64 0, .int .i64 0], .int .i64 4]) (by simp [results, Tryz.results18, go_sem, r0, r1, t0, t1]) rfl ⟨rfl, hfin⟩
          · go_wp2_with fail
            go_roundw
            case rel => exact .inr (.inr ⟨rfl, ⟨u, v, oa, ob, hF0, hF, hA⟩, hB⟩)
            case measure => simp [intOf]
    · have hrv := HYES.out u v u1 v1 hF0 hF1
      subst hrv
      obtain ⟨wo, rfl⟩ : ∃ wo : World, wo = wr := ⟨_, rfl⟩
      have hs1 := HS1.out.below (BT hbe hB) hl1
      have hs2 := HS2.out.below (BT hbe hB) hl0
      go_upto_region 22 with fail
      refine wp_region_seq [(0, true), (1, true), (2, true), (3, true), (4, false), (5, false), (6, true)] (fun Y => Y.cell? ⟨w1.heap.size, 0, none⟩ = some (.int .i64 u) ∧ Y.cell? ⟨w1.heap.size, 1, none⟩ = some (.int .i64 v) ∧ Y.cell? ⟨w1.heap.size, 2, none⟩ = some (.int .i64 u1) ∧ Y.cell? ⟨w1.heap.size, 3, none⟩ = some (.int .i64 v1)) (by kernel_rfl) (by kernel_rfl) (fun _ _ d _ _ h => by cases d <;> exact h) ⟨by simpa using hA.c0, by simpa using hA.c1, by simpa using hA.c2, by simpa using hA.c3⟩ ?_
      have hbd : Below wo.heap.size wo wo.drew := Below.drew (Below.refl _ _)
      replace hA := hA.grown hbd
      replace hs1 := hs1.drew
      replace hs2 := hs2.drew
      have hfin := BC (BC (BC (BC (BT HB0.out (BT hbe (BT hB hbd))) (w.heap.size + 1) 0 (by omega) (.int .i64 u)) (w.heap.size + 1) 1 (by omega) (.int .i64 v)) (w.heap.size + 1 + 1) 0 (by omega) (.int .i64 u1)) (w.heap.size + 1 + 1) 1 (by omega) (.int .i64 v1)
      clear hB hbd
      generalize wo.drew = X0 at *
      refine seq_free (fun F HF Q HQ => ?_)
      repeat (first | (refine seq_read rfl (by rfl) _ (fun w' hS => by (try dsimp only at hS); go_simp; (try with_reducible rfl)) ?_; (try simp only [Act.put, List.setIfInBounds_toArray, List.set_cons_zero, List.set_cons_succ])) | (refine seq_skip rfl (by rfl) ?_; (try simp only [Act.put, List.setIfInBounds_toArray, List.set_cons_zero, List.set_cons_succ])))
      refine seq_do rfl (by rfl) (fun K hK => ?_)
      obtain ⟨u0, r0, f0⟩ := hs1.get 0 (by omega)
      obtain ⟨u2, r1, f1⟩ := hs1.get 1 (by omega)
      obtain ⟨v0, t0, g0⟩ := hs2.get 0 (by omega)
      obtain ⟨v2, t1, g1⟩ := hs2.get 1 (by omega)
      replace hA := (hA.put (B := w.heap.size + 1) (by omega) 0 (.int .i64 u)).put (B := w.heap.size + 1) (by omega) 1 (.int .i64 v)
      go_simp
      refine hK _ _ ⟨hA.c0, hA.c1, hA.c2, hA.c3⟩ ?_
      clear hK K
      (try simp only [Act.put, List.setIfInBounds_toArray, List.set_cons_zero, List.set_cons_succ])
      repeat (first | (refine seq_read rfl (by rfl) _ (fun w' hS => by (try dsimp only at hS); go_simp; (try with_reducible rfl)) ?_; (try simp only [Act.put, List.setIfInBounds_toArray, List.set_cons_zero, List.set_cons_succ])) | (refine seq_skip rfl (by rfl) ?_; (try simp only [Act.put, List.setIfInBounds_toArray, List.set_cons_zero, List.set_cons_succ])))
      replace hA := (hA.put (B := w.heap.size + 1 + 1) (by omega) 0 (.int .i64 u1)).put (B := w.heap.size + 1 + 1) (by omega) 1 (.int .i64 v1)
      refine seq_do rfl (by rfl) (fun K hK => ?_)
      go_simp
      refine hK _ _ ⟨hA.c0, hA.c1, hA.c2, hA.c3⟩ ?_
      clear hK K hA
      (try simp only [Act.put, List.setIfInBounds_toArray, List.set_cons_zero, List.set_cons_succ])
      repeat (first | (refine seq_read rfl (by rfl) _ (fun w' hS => by (try dsimp only at hS); go_simp; (try with_reducible rfl)) ?_; (try simp only [Act.put, List.setIfInBounds_toArray, List.set_cons_zero, List.set_cons_succ])) | (refine seq_skip rfl (by rfl) ?_; (try simp only [Act.put, List.setIfInBounds_toArray, List.set_cons_zero, List.set_cons_succ])))
      apply seq_end
      refine HF _ _ ?_
      first | show Exit.inBlock _ _ Exit.normal _ _ | show Exit.then _ _ Exit.normal _ _ | skip
      go_wp2_with fail
      exact bodyPost_ret (v := .tuple #[.agg #[.int .i64 u, .int .i64 v], .agg #[.int .i64 u1, .int .i64 v1], .int .i64 0]) (by simp [results, Tryz.results18, go_sem, r0, r1, t0, t1]) rfl ⟨rfl, hfin⟩
end Go.Proofs.YtdkegkacpdkjgaaGreat

namespace Go.Proofs.YtdkegkacpdkjgaaGreat
open Go.RowKit Go.Maps

def subN (v a : Nat) : Prop := ∀ i, v.testBit i = true → a.testBit i = true
theorem sub_and {v a : Nat} : v &&& a = v ↔ subN v a := by
  constructor
  · intro h i hi
    rw [← h, Nat.testBit_and, Bool.and_eq_true] at hi
    exact hi.2
  · intro h
    refine Nat.eq_of_testBit_eq fun i => ?_
    rw [Nat.testBit_and]
    cases hv : v.testBit i
    · rfl
    · rw [h i hv]; rfl
theorem sub_le {v a : Nat} (h : subN v a) : v ≤ a := by rw [← sub_and.2 h]; exact Nat.and_le_right
theorem sub_minus : ∀ (v a : Nat), subN v a → ∀ i, (a - v).testBit i = (a.testBit i && !v.testBit i)
  | 0, a, _, i => by simp
  | v + 1, 0, h, i => by
    have := sub_le h
    omega
  | v + 1, a + 1, h, i => by
    have hs : subN ((v + 1) / 2) ((a + 1) / 2) := fun i hi => by
      have := h (i + 1)
      rw [Nat.testBit_succ, Nat.testBit_succ] at this
      exact this hi
    have hle := sub_le hs
    have hb : (v + 1) % 2 ≤ (a + 1) % 2 := by
      have := h 0
      simp only [Nat.testBit_zero, decide_eq_true_eq] at this
      omega
    have ih := sub_minus ((v + 1) / 2) ((a + 1) / 2) hs
    have e : a + 1 - (v + 1) = 2 * ((a + 1) / 2 - (v + 1) / 2) + ((a + 1) % 2 - (v + 1) % 2) := by omega
    cases i with
    | zero =>
      simp only [Nat.testBit_zero]
      rw [e]
      rcases Nat.mod_two_eq_zero_or_one (a + 1) with h1 | h1 <;> rcases Nat.mod_two_eq_zero_or_one (v + 1) with h2 | h2
      · rw [h1, h2]; simp
      · rw [h1, h2] at hb; omega
      · rw [h1, h2]; simp
      · rw [h1, h2]; simp
    | succ i =>
      rw [Nat.testBit_succ, Nat.testBit_succ, Nat.testBit_succ, ← ih i]
      congr 1
      omega
section
variable {p : Pl} {ss : List St} {a : Nat}
/-- Without a set: what is left, as a number. -/
theorem andNot_minus {v : Nat} (ha : a < 1024) (h : subN v a) : bits .andNot .i64 (a : Int) (v : Int) = ((a - v : Nat) : Int) := by
  have hv := sub_le h
  obtain ⟨y, e, _, h2⟩ := andNot_nat (a := a) (b := v) (by omega) (by omega)
  rw [e]
  have : y = a - v := Nat.eq_of_testBit_eq fun i => by rw [h2, sub_minus v a h]
  rw [this]
/-- The best set of those less than s that contradicts. -/
def ClI (p : Pl) (ss : List St) (a s b : Nat) : Prop := (b = 0 ∧ ∀ v : Nat, 1 ≤ v → v < s → subN v a → canR p ss (v : Int) = true) ∨
  (1 ≤ b ∧ b < s ∧ subN b a ∧ canR p ss (b : Int) = false ∧ ∀ v : Nat, 1 ≤ v → v < s → subN v a → canR p ss (v : Int) = false → popc (b : Int) < popc (v : Int) ∨ (popc (b : Int) = popc (v : Int) ∧ b ≤ v))
theorem cl_take {s b : Nat} (h : ClI p ss a s b) (hs : 1 ≤ s) (h1 : subN s a) (h2 : b = 0 ∨ popc (s : Int) < popc (b : Int)) (h3 : canR p ss (s : Int) = false) : ClI p ss a (s + 1) s := by
  refine .inr ⟨hs, by omega, h1, h3, fun v v1 v2 v3 v4 => ?_⟩
  by_cases hv : v = s
  · subst hv; exact .inr ⟨rfl, Nat.le_refl _⟩
  · rcases h with ⟨_, h⟩ | ⟨g1, g2, g3, g4, g5⟩
    · rw [h v v1 (by omega) v3] at v4; cases v4
    · have := g5 v v1 (by omega) v3 v4
      rcases h2 with h2 | h2
      · omega
      · exact .inl (by omega)
theorem cl_keep {s b : Nat} (h : ClI p ss a s b) (hn : subN s a → (b = 0 ∨ popc (s : Int) < popc (b : Int)) → canR p ss (s : Int) = true) : ClI p ss a (s + 1) b := by
  rcases h with ⟨h0, h⟩ | ⟨g1, g2, g3, g4, g5⟩
  · refine .inl ⟨h0, fun v v1 v2 v3 => ?_⟩
    by_cases hv : v = s
    · subst hv; exact hn v3 (.inl h0)
    · exact h v v1 (by omega) v3
  · refine .inr ⟨g1, by omega, g3, g4, fun v v1 v2 v3 v4 => ?_⟩
    by_cases hv : v = s
    · subst hv
      by_cases hp : popc (v : Int) < popc (b : Int)
      · rw [hn v3 (.inr hp)] at v4; cases v4
      · omega
    · exact g5 v v1 (by omega) v3 v4
theorem cl_end (hnl : ss.length = p.n) (hv : plB p ss = true) (hk : knownTo ss p.n = (a : Int)) {b : Nat} (h : ClI p ss a (2 ^ p.n) b) : clashR p ss = .ok (.int .i64 b) := by
  have ok := plOk' hnl hv
  have hp : 2 ^ p.n ≤ 1024 := (by decide +kernel : ∀ k : Fin 11, 2 ^ k.val ≤ 1024) ⟨p.n, by have := ok.n10; omega⟩
  obtain ⟨a', u', hd⟩ := drop_is hnl hv
  have ea : a' = a := by have := hd.known; rw [hk] at this; omega
  subst ea
  have ha := hd.a10
  rcases h with ⟨rfl, h⟩ | ⟨g1, g2, g3, g4, g5⟩
  · obtain ⟨C, D, a2, o, f⟩ := clash_facts hnl hv (b := 0) (by omega)
    have ea : a2 = a' := by have := f.known; rw [hk] at this; omega
    subst ea
    rw [f.clash]
    rcases f.sc with ⟨c0, _⟩ | ⟨c0, _, _, _, c4⟩
    · rw [c0]
    · have hl := sub_le (v := C) (a := a2) f.csub
      rw [h C (by omega) (by omega) f.csub] at c4; cases c4
  · obtain ⟨C, D, a2, o, f⟩ := clash_facts hnl hv (b := (b : Int)) (by omega)
    have ea : a2 = a' := by have := f.known; rw [hk] at this; omega
    subst ea
    have eo : o = b := by
      have := f.own
      rw [and_nat (by omega) (by omega), sub_and.2 g3] at this
      omega
    subst eo
    obtain ⟨c0, c1⟩ := f.oo g4
    rw [f.clash]
    have c4 : canR p ss (C : Int) = false := by
      rcases f.sc with ⟨c0', _⟩ | ⟨_, _, _, _, c4⟩
      · exact absurd c0' c0
      · exact c4
    have hl := sub_le (v := C) (a := a2) f.csub
    have := g5 C (by omega) (by omega) f.csub c4
    have e : C = o := by omega
    rw [e]
/-- The best set of those less than s without which all others can be right. -/
structure DrI (p : Pl) (ss : List St) (a s b : Nat) : Prop where
  lt : b < s ∨ b = a
  sub : subN b a
  can : canR p ss ((a - b : Nat) : Int) = true
  least : ∀ v : Nat, v < s → subN v a → canR p ss ((a - v : Nat) : Int) = true → popc (b : Int) < popc (v : Int) ∨ (popc (b : Int) = popc (v : Int) ∧ b ≤ v)
theorem dr_start (ok : PlOk p ss) : DrI p ss a 0 a where
  lt := .inr rfl
  sub := fun _ h => h
  can := by rw [Nat.sub_self]; exact can_none ok
  least v h := by omega
theorem dr_take {s b : Nat} (h : DrI p ss a s b) (h1 : subN s a) (h2 : popc (s : Int) < popc (b : Int)) (h3 : canR p ss ((a - s : Nat) : Int) = true) : DrI p ss a (s + 1) s where
  lt := .inl (by omega)
  sub := h1
  can := h3
  least v hv h4 h5 := by
    by_cases e : v = s
    · subst e; exact .inr ⟨rfl, Nat.le_refl _⟩
    · have := h.least v (by omega) h4 h5
      exact .inl (by omega)
theorem dr_keep {s b : Nat} (ha : a < 1024) (h : DrI p ss a s b) (hn : subN s a → popc (s : Int) < popc (b : Int) → canR p ss ((a - s : Nat) : Int) = false) : DrI p ss a (s + 1) b where
  lt := by have := h.lt; omega
  sub := h.sub
  can := h.can
  least v hv h4 h5 := by
    by_cases e : v = s
    · subst e
      by_cases hp : popc (v : Int) < popc (b : Int)
      · rw [hn h4 hp] at h5; cases h5
      · by_cases hq : popc (b : Int) < popc (v : Int)
        · exact .inl hq
        · refine .inr ⟨by omega, ?_⟩
          rcases h.lt with hl | hl
          · omega
          · subst hl
            -- as many as all: it is all
            refine Classical.byContradiction fun hle => ?_
            have hvl := sub_le h4
            obtain ⟨i, hi1, hi2⟩ : ∃ i, b.testBit i = true ∧ v.testBit i = false := by
              refine Classical.byContradiction fun hno => hle ?_
              refine sub_le fun i hi => ?_
              cases hvi : v.testBit i
              · exact absurd ⟨i, hi, hvi⟩ hno
              · rfl
            have := popc_lt (x := b) (y := v) (by omega) (by omega) h4 (i := i) (bit_lt (by omega) hi1 |> fun h => by omega) hi1 hi2
            omega
    · exact h.least v (by omega) h4 h5
theorem dr_end (hnl : ss.length = p.n) (hv : plB p ss = true) (hk : knownTo ss p.n = (a : Int)) {b : Nat} (h : DrI p ss a (2 ^ p.n) b) : dropR p ss = .ok (.int .i64 b) := by
  obtain ⟨a', u, hd⟩ := drop_is hnl hv
  have ea : a' = a := by have := hd.known; rw [hk] at this; omega
  subst ea
  have ha := hd.a10
  have hul := sub_le (v := u) (a := a') hd.sub
  have hbl := sub_le h.sub
  obtain ⟨y, e1, _, _, e4⟩ := hd.can
  rw [andNot_minus ha.2 hd.sub] at e1
  rw [← e1] at e4
  have l1 := h.least u (by omega) hd.sub e4
  have l2 := hd.least b (by omega) h.sub (by unfold dropF; rw [hk, andNot_minus ha.2 h.sub]; exact h.can)
  have : u = b := by omega
  rw [hd.drop, this]
end
end Go.Proofs.YtdkegkacpdkjgaaGreat

namespace Go.Proofs.YtdkegkacpdkjgaaGreat
open Go.RowKit

/-- Some stars can be right just if some scale does. -/
theorem crB_v {p : Pl} {ss : List St} {v : Nat} (ok : PlOk p ss) (hv : v < 1024) (hk : ∀ i, i < ss.length → v.testBit i = true → (ss.getD i default).k = true) {sc : Int} (h0 : 1 ≤ sc) (h1 : sc ≤ 1000) : crB ss sc v.testBit p.n = corB ss sc (setI (v : Int)) p.n := by
  have hc : ∀ d, corS ss sc (setI (v : Int)) d p.n = corS ss sc v.testBit d p.n := fun d => corS_congr fun i hi => bit_nat (by omega) (by have := ok.n10; omega)
  unfold crB corB
  have e : ∀ d, decide ((crR ss sc v.testBit d p.n).1 ≤ (crR ss sc v.testBit d p.n).2) = decide ((corS ss sc (setI (v : Int)) d p.n).1 ≤ (corS ss sc (setI (v : Int)) d p.n).2) := fun d => by
    rw [hc d]
    rcases cr_cor (ss := ss) (sc := sc) (R := v.testBit) (d := d) (by omega) h1 (fun i hi => ok.st i hi d) hk p.n (by rw [ok.nl]; exact Nat.le_refl _) with ⟨_, x, y⟩ | ⟨_, x⟩
    · rw [x, y]; rfl
    · rw [x]
  rw [e false, e true]
theorem sc_can {p : Pl} {ss : List St} {v : Nat} (ok : PlOk p ss) (hv : v < 1024) (hk : ∀ i, i < ss.length → v.testBit i = true → (ss.getD i default).k = true) : (scL p ss v).length = 0 ↔ canR p ss (v : Int) = false := by
  have lo := ok.lo
  have hi := ok.hi
  rw [← Bool.not_eq_true, canR_iff lo hi]
  constructor
  · rintro h ⟨sc, ⟨s0, s1⟩, s2⟩
    rw [← crB_v ok hv hk (by omega) (by omega)] at s2
    have hm : sc ∈ scL p ss v := scTo_has' s0 (by omega) s2
    rw [List.length_eq_zero_iff.1 h] at hm
    cases hm
  · intro h
    refine Classical.byContradiction fun hl => h ?_
    obtain ⟨h1, h2, h3⟩ := scTo_mem (mem_of_get (L := scL p ss v) (i := 0) (by omega))
    rw [crB_v ok hv hk (by omega) (by omega)] at h3
    exact ⟨_, ⟨h1, by omega⟩, h3⟩
set_option maxRecDepth 100000 in
set_option maxHeartbeats 8000000 in
theorem clashRR_any (p : Pl) (ss : List St) (a : Nat) (w : World) (hm : PlAt p ss w) (hk : plB p ss = true → KnO p ss a) (hok : plB p ss = true → PlOk p ss) :
    Calls Tryz.prog 20 #[p.val] w (Ret (repI (clashR p ss)) w) := by
  have HP : Hid (∀ Y, Below w.heap.size w Y → Calls Tryz.prog 16 #[.agg #[.int .i64 p.lo, .int .i64 p.hi, .slice p.a p.n p.cap]] Y (Ret (.bool (plB p ss)) Y)) := fun Y hY => plateR_any p ss Y (hm.below hY (Nat.le_refl _))
  unfold Pl.val
  obtain ⟨W0, hW0⟩ : ∃ X, w.alloc (.cells #[.int .i64 p.lo, .int .i64 p.hi, .slice p.a p.n p.cap] 26) = X := ⟨_, rfl⟩
  have hB0 : Below w.heap.size w W0 := by rw [← hW0]; exact newB _ _
  have hQ : BoxP W0 w.heap.size p := by rw [← hW0]; exact boxP_new w p _
  have HB0 := Lib.hid hB0
  have HQ := Lib.hid hQ
  obtain ⟨b0, b1, b2⟩ := id hQ
  clear hQ
  cases hv : plB p ss
  · rw [hv] at HP
    have hR : repI (clashR p ss) = .tuple #[.int .i64 0, .int .i64 1] := by unfold clashR; rw [hv]; rfl
    rw [hR]
    clear hR hm hk hok hv
    go_enter Tryz.func20, Tryz.ntmps20
    go_wp2_with fail
    clear hW0 b0 b1 b2
    refine (HP.out W0 HB0.out).mono ?_
    rintro e w1 ⟨rfl, hx⟩
    go_wp2_with fail
    exact bodyPost_ret (v := .tuple #[.int .i64 0, .int .i64 1]) (by simp [results, Tryz.results20, go_sem]) rfl ⟨rfl, BT HB0.out hx⟩
  have K := hk hv
  have ok := hok hv
  rw [hv] at HP
  have n10 := ok.n10
  have hnl := ok.nl
  obtain ⟨a', u', hd⟩ := drop_is hnl hv
  have ea : a' = a := by have h1 := hd.known; have h2 := K.e; rw [h2] at h1; omega
  subst ea
  have ha := hd.a10
  have hp2 : 2 ^ p.n ≤ 1024 := (by decide +kernel : ∀ k : Fin 11, 2 ^ k.val ≤ 1024) ⟨p.n, by omega⟩
  have HKN : Hid (∀ Y, Below w.heap.size w Y → Calls Tryz.prog 48 #[.agg #[.int .i64 p.lo, .int .i64 p.hi, .slice p.a p.n p.cap]] Y (Ret (.int .i64 (a' : Int)) Y)) := fun Y hY => by
    have h := knownR_any p ss Y (hm.below hY (Nat.le_refl _)) (by omega)
    rw [K.e] at h; exact h
  obtain ⟨M, hM⟩ : ∃ M : Nat, 2 ^ p.n = M := ⟨_, rfl⟩
  have HPW : Hid (∀ Y, Calls Tryz.prog 73 #[.int .i64 (p.n : Int)] Y (Ret (.int .i64 (M : Int)) Y)) := fun Y => by
    have h := powerR_any p.n (by omega) Y
    rw [show ((2 : Int) ^ p.n) = ((2 ^ p.n : Nat) : Int) from by rw [Int.natCast_pow]; rfl, hM] at h
    exact h
  have HSZ : Hid (∀ (s : Nat) Y, s < 1024 → Calls Tryz.prog 74 #[.int .i64 (s : Int)] Y (Ret (.int .i64 (popc (s : Int))) Y)) := fun s Y hs => sizeR_any (s : Int) (by omega) Y
  have HSC : Hid (∀ (s : Nat) Y, s < 1024 → subN s a' → Below w.heap.size w Y → Calls Tryz.prog 75 #[.agg #[.int .i64 p.lo, .int .i64 p.hi, .slice p.a p.n p.cap], .int .i64 (s : Int)] Y (ScOut (scL p ss s) Y)) := fun s Y hs hsub hY => scalesRR_any p ss s Y (hm.below hY (Nat.le_refl _)) ⟨fun i hi d => ok.st i hi d, by omega, by omega, fun i hi hb => K.ok.k i hi (hsub i hb)⟩ ok.lo ok.mid ok.hi
  have HSN : Hid (∀ s : Nat, s < 1024 → subN s a' → ((scL p ss s).length = 0 ↔ canR p ss (s : Int) = false)) := fun s hs hsub => sc_can ok hs fun i hi hb => K.ok.k i hi (hsub i hb)
  have HEND : Hid (∀ b : Nat, ClI p ss a' M b → repI (clashR p ss) = .tuple #[.int .i64 (b : Int), .int .i64 0]) := fun b hb => by
    rw [← hM] at hb
    rw [cl_end hnl hv K.e hb]; rfl
  obtain ⟨RV, hRV⟩ : ∃ RV, repI (clashR p ss) = RV := ⟨_, rfl⟩
  rw [hRV] at HEND ⊢
  have hc0 : ClI p ss a' 1 0 := .inl ⟨rfl, fun v h1 h2 => by omega⟩
  have hM1 : 1 ≤ M := by rw [← hM]; exact Nat.one_le_two_pow
  have hM2 : M ≤ 1024 := by rw [← hM]; exact hp2
  have ha2 := ha.2
  clear hm hk hok K ok hd hv ha hp2 hM hRV hnl
  go_enter Tryz.func20, Tryz.ntmps20
  go_wp2_with fail
  clear hW0 b0 b1 b2
  refine (HP.out W0 HB0.out).mono ?_
  rintro e w1 ⟨rfl, hx⟩
  go_wp2_with fail
  go_loopw [4, 5] (fun bi si wz => ∃ (b s : Nat), (1 ≤ s ∧ s ≤ M ∧ b < 1024) ∧ bi = .int .i64 b ∧ si = .int .i64 s ∧ ClI p ss a' s b ∧ Below W0.heap.size W0 wz) (fun _ si _ => M - (intOf si).toNat)
  case atStart => exact ⟨0, 1, by omega, rfl, rfl, hc0, hx⟩
  case round =>
    clear hx hc0
    obtain ⟨b, s, ⟨hs1, hsM, hb10⟩, rfl, rfl, hC, hB⟩ := hrel
    obtain ⟨wo, rfl⟩ : ∃ wo : World, wo = wr := ⟨_, rfl⟩
    have hs0 : (0 : Int) ≤ (s : Int) := by omega
    obtain ⟨b0, b1, b2⟩ := HQ.out.grown hB
    go_wp2_with fail
    clear b0 b1 b2
    refine (HPW.out wo).mono ?_
    rintro e w2 ⟨rfl, hx⟩
    replace hB := BT hB hx
    clear hx
    by_cases hlt : s < M
    · have hsi : (s : Int) < (M : Int) := by omega
      obtain ⟨b0, b1, b2⟩ := HQ.out.grown hB
      have hands : bits .and .i64 (s : Int) (a' : Int) = ((s &&& a' : Nat) : Int) := and_nat (by omega) (by omega)
      have HCI := Lib.hid hC
      clear hC
      obtain ⟨cnd, hcnd⟩ : ∃ cnd : Bool, cnd = (decide (s &&& a' = s) && (decide (b = 0) || decide (popc (s : Int) < popc (b : Int))) && !canR p ss (s : Int)) := ⟨_, rfl⟩
      go_upto_region 7 with fail
      go_cut [40] from 17 to 40 (fun u X => u = .bool cnd ∧ Below w2.heap.size w2 X)
      case first =>
        go_wp2_with fail
        clear b0 b1 b2
        refine (HKN.out w2 (BT HB0.out hB)).mono ?_
        rintro e w3 ⟨rfl, hx⟩
        have hB3 := BT hB hx
        obtain ⟨b0, b1, b2⟩ := HQ.out.grown hB3
        have hB3' := hx
        by_cases hsub : s &&& a' = s
        · have hb : (bits .and .i64 (s : Int) (a' : Int) == (s : Int)) = true := by rw [hands, hsub]; simp
          by_cases hb0 : b = 0
          · subst hb0
            go_wp2_with fail
            clear b0 b1 b2
            refine (HSC.out s w3 (by omega) (sub_and.1 hsub) (BT HB0.out hB3)).mono ?_
            rintro e w6 ⟨sa, cap, rfl, -, hx6⟩
            have hB6 := BT hB3' hx6
            have hn := HSN.out s (by omega) (sub_and.1 hsub)
            generalize (scL p ss s).length = l at *
            have hl0 : (0 : Int) ≤ (l : Int) := by omega
            by_cases hl : l = 0
            · have hl1 : ((l : Int) == 0) = true := by simp; omega
              have hcc : cnd = true := by rw [hcnd, decide_eq_true hsub, hn.1 hl]; simp
              go_wp2_with fail
              go_meet
              exact ⟨by first | (rw [hcc]; done) | (rw [hcc, hl1]; done) | simp [hcc, hl1], hB6⟩
            · have hl1 : ((l : Int) == 0) = false := by simp; omega
              have hcc : cnd = false := by
                rw [hcnd]
                cases hcn : canR p ss (s : Int)
                · exact absurd (hn.2 hcn) hl
                · simp
              go_wp2_with fail
              go_meet
              exact ⟨by first | (rw [hcc]; done) | (rw [hcc, hl1]; done) | simp [hcc, hl1], hB6⟩
          · have hb1 : ((b : Int) == 0) = false := by simp; omega
            have hb2 : ¬ (b : Int) = 0 := by omega
            go_wp2_with fail
            clear b0 b1 b2
            refine (HSZ.out s w3 (by omega)).mono ?_
            rintro e w4 ⟨rfl, hx4⟩
            go_wp2_with fail
            refine (HSZ.out b w4 (by omega)).mono ?_
            rintro e w5 ⟨rfl, hx5⟩
            have hB5' := BT (BT hB3' hx4) hx5
            have hB5 := BT hB hB5'
            obtain ⟨b0, b1, b2⟩ := HQ.out.grown hB5
            by_cases hp : popc (s : Int) < popc (b : Int)
            · go_wp2_with fail
              clear b0 b1 b2
              refine (HSC.out s w5 (by omega) (sub_and.1 hsub) (BT HB0.out hB5)).mono ?_
              rintro e w6 ⟨sa, cap, rfl, -, hx6⟩
              have hB6 := BT hB5' hx6
              have hn := HSN.out s (by omega) (sub_and.1 hsub)
              generalize (scL p ss s).length = l at *
              have hl0 : (0 : Int) ≤ (l : Int) := by omega
              by_cases hl : l = 0
              · have hl1 : ((l : Int) == 0) = true := by simp; omega
                have hcc : cnd = true := by rw [hcnd, decide_eq_true hsub, hn.1 hl]; simp [hp]
                go_wp2_with fail
                go_meet
                exact ⟨by first | (rw [hcc]; done) | (rw [hcc, hl1]; done) | simp [hcc, hl1], hB6⟩
              · have hl1 : ((l : Int) == 0) = false := by simp; omega
                have hcc : cnd = false := by
                  rw [hcnd]
                  cases hcn : canR p ss (s : Int)
                  · exact absurd (hn.2 hcn) hl
                  · simp
                go_wp2_with fail
                go_meet
                exact ⟨by first | (rw [hcc]; done) | (rw [hcc, hl1]; done) | simp [hcc, hl1], hB6⟩
            · have hcc : cnd = false := by rw [hcnd, decide_eq_false hb0, decide_eq_false hp]; simp
              go_wp2_with fail
              go_meet
              exact ⟨by rw [hcc], hB5'⟩
        · have hb : (bits .and .i64 (s : Int) (a' : Int) == (s : Int)) = false := by rw [hands, beq_eq_false_iff_ne]; omega
          have hcc : cnd = false := by rw [hcnd, decide_eq_false hsub]; simp
          go_wp2_with fail
          go_meet
          exact ⟨by rw [hcc], hB3'⟩
      case rest =>
      obtain ⟨rfl, hbc⟩ := hcut
      obtain ⟨w9, rfl⟩ : ∃ w9 : World, w9 = wc := ⟨_, rfl⟩
      replace hB := BT hB hbc
      clear hbc b0 b1 b2 hands
      have e4 : IntKind.i64.wrap ((s : Int) + 1) = ((s + 1 : Nat) : Int) := by rw [IntWalk.i64_in _ (by omega)]; omega
      cases hcn : cnd
      · have hC := cl_keep HCI.out (fun h1 h2 => by
          rw [hcnd, sub_and.2 h1] at hcn
          have h3 : (decide (b = 0) || decide (popc (s : Int) < popc (b : Int))) = true := by simpa using h2
          rw [h3] at hcn
          simpa using hcn)
        go_wp2_with fail
        go_roundw
        case rel => exact ⟨b, s + 1, by omega, rfl, by go_num, hC, hB⟩
        case measure => simp [intOf]; omega
      · rw [hcnd] at hcn
        simp only [Bool.and_eq_true, decide_eq_true_eq, Bool.or_eq_true, Bool.not_eq_true'] at hcn
        have hC := cl_take HCI.out hs1 (sub_and.1 hcn.1.1) hcn.1.2 hcn.2
        go_wp2_with fail
        go_roundw
        case rel => exact ⟨s, s + 1, by omega, rfl, by go_num, hC, hB⟩
        case measure => simp [intOf]; omega
    · obtain rfl : s = M := by omega
      have hrv := HEND.out b hC
      subst hrv
      have hfin := BT HB0.out hB
      go_wp2_with fail
      exact bodyPost_ret (v := .tuple #[.int .i64 (b : Int), .int .i64 0]) (by simp [results, Tryz.results20, go_sem]) rfl ⟨rfl, hfin⟩
end Go.Proofs.YtdkegkacpdkjgaaGreat

namespace Go.Proofs.YtdkegkacpdkjgaaGreat
open Go.RowKit

set_option maxRecDepth 100000 in
set_option maxHeartbeats 8000000 in
theorem dropRR_any (p : Pl) (ss : List St) (a : Nat) (w : World) (hm : PlAt p ss w) (hk : plB p ss = true → KnO p ss a) (hok : plB p ss = true → PlOk p ss) :
    Calls Tryz.prog 22 #[p.val] w (Ret (repI (dropR p ss)) w) := by
  have HP : Hid (∀ Y, Below w.heap.size w Y → Calls Tryz.prog 16 #[.agg #[.int .i64 p.lo, .int .i64 p.hi, .slice p.a p.n p.cap]] Y (Ret (.bool (plB p ss)) Y)) := fun Y hY => plateR_any p ss Y (hm.below hY (Nat.le_refl _))
  unfold Pl.val
  obtain ⟨W0, hW0⟩ : ∃ X, w.alloc (.cells #[.int .i64 p.lo, .int .i64 p.hi, .slice p.a p.n p.cap] 26) = X := ⟨_, rfl⟩
  have hB0 : Below w.heap.size w W0 := by rw [← hW0]; exact newB _ _
  have hQ : BoxP W0 w.heap.size p := by rw [← hW0]; exact boxP_new w p _
  have HB0 := Lib.hid hB0
  have HQ := Lib.hid hQ
  obtain ⟨b0, b1, b2⟩ := id hQ
  clear hQ
  cases hv : plB p ss
  · rw [hv] at HP
    have hR : repI (dropR p ss) = .tuple #[.int .i64 0, .int .i64 1] := by unfold dropR; rw [hv]; rfl
    rw [hR]
    clear hR hm hk hok hv
    go_enter Tryz.func22, Tryz.ntmps22
    go_wp2_with fail
    clear hW0 b0 b1 b2
    refine (HP.out W0 HB0.out).mono ?_
    rintro e w1 ⟨rfl, hx⟩
    go_wp2_with fail
    exact bodyPost_ret (v := .tuple #[.int .i64 0, .int .i64 1]) (by simp [results, Tryz.results22, go_sem]) rfl ⟨rfl, BT HB0.out hx⟩
  have K := hk hv
  have ok := hok hv
  rw [hv] at HP
  have n10 := ok.n10
  have hnl := ok.nl
  obtain ⟨a', u', hd⟩ := drop_is hnl hv
  have ea : a' = a := by have h1 := hd.known; have h2 := K.e; rw [h2] at h1; omega
  subst ea
  have ha := hd.a10
  have hp2 : 2 ^ p.n ≤ 1024 := (by decide +kernel : ∀ k : Fin 11, 2 ^ k.val ≤ 1024) ⟨p.n, by omega⟩
  have HKN : Hid (∀ Y, Below w.heap.size w Y → Calls Tryz.prog 48 #[.agg #[.int .i64 p.lo, .int .i64 p.hi, .slice p.a p.n p.cap]] Y (Ret (.int .i64 (a' : Int)) Y)) := fun Y hY => by
    have h := knownR_any p ss Y (hm.below hY (Nat.le_refl _)) (by omega)
    rw [K.e] at h; exact h
  obtain ⟨M, hM⟩ : ∃ M : Nat, 2 ^ p.n = M := ⟨_, rfl⟩
  have HPW : Hid (∀ Y, Calls Tryz.prog 73 #[.int .i64 (p.n : Int)] Y (Ret (.int .i64 (M : Int)) Y)) := fun Y => by
    have h := powerR_any p.n (by omega) Y
    rw [show ((2 : Int) ^ p.n) = ((2 ^ p.n : Nat) : Int) from by rw [Int.natCast_pow]; rfl, hM] at h
    exact h
  have HSZ : Hid (∀ (s : Nat) Y, s < 1024 → Calls Tryz.prog 74 #[.int .i64 (s : Int)] Y (Ret (.int .i64 (popc (s : Int))) Y)) := fun s Y hs => sizeR_any (s : Int) (by omega) Y
  have HSC : Hid (∀ (s : Nat) Y, s < 1024 → subN s a' → Below w.heap.size w Y → Calls Tryz.prog 75 #[.agg #[.int .i64 p.lo, .int .i64 p.hi, .slice p.a p.n p.cap], .int .i64 (s : Int)] Y (ScOut (scL p ss s) Y)) := fun s Y hs hsub hY => scalesRR_any p ss s Y (hm.below hY (Nat.le_refl _)) ⟨fun i hi d => ok.st i hi d, by omega, by omega, fun i hi hb => K.ok.k i hi (hsub i hb)⟩ ok.lo ok.mid ok.hi
  have HSN : Hid (∀ s : Nat, s < 1024 → subN s a' → ((scL p ss s).length = 0 ↔ canR p ss (s : Int) = false)) := fun s hs hsub => sc_can ok hs fun i hi hb => K.ok.k i hi (hsub i hb)
  have HEND : Hid (∀ b : Nat, DrI p ss a' M b → repI (dropR p ss) = .tuple #[.int .i64 (b : Int), .int .i64 0]) := fun b hb => by
    rw [← hM] at hb
    rw [dr_end hnl hv K.e hb]; rfl
  obtain ⟨RV, hRV⟩ : ∃ RV, repI (dropR p ss) = RV := ⟨_, rfl⟩
  rw [hRV] at HEND ⊢
  have hc0 : DrI p ss a' 0 a' := dr_start ok
  have hM1 : 1 ≤ M := by rw [← hM]; exact Nat.one_le_two_pow
  have hM2 : M ≤ 1024 := by rw [← hM]; exact hp2
  have ha2 := ha.2
  clear hm hk hok K ok hd hv ha hp2 hM hRV hnl
  go_enter Tryz.func22, Tryz.ntmps22
  go_wp2_with fail
  clear hW0 b0 b1 b2
  refine (HP.out W0 HB0.out).mono ?_
  rintro e w1' ⟨rfl, hx'⟩
  obtain ⟨b0, b1, b2⟩ := HQ.out.grown hx'
  go_wp2_with fail
  clear b0 b1 b2
  refine (HKN.out w1' (BT HB0.out hx')).mono ?_
  rintro e w1 ⟨rfl, hx2⟩
  have hx := BT hx' hx2
  clear hx' hx2
  go_wp2_with fail
  go_loopw [4, 5] (fun bi si wz => ∃ (b s : Nat), (s ≤ M ∧ b < 1024) ∧ bi = .int .i64 b ∧ si = .int .i64 s ∧ DrI p ss a' s b ∧ Below W0.heap.size W0 wz) (fun _ si _ => M - (intOf si).toNat)
  case atStart => exact ⟨a', 0, by omega, rfl, rfl, hc0, hx⟩
  case round =>
    clear hx hc0
    obtain ⟨b, s, ⟨hsM, hb10⟩, rfl, rfl, hC, hB⟩ := hrel
    obtain ⟨wo, rfl⟩ : ∃ wo : World, wo = wr := ⟨_, rfl⟩
    have hs0 : (0 : Int) ≤ (s : Int) := by omega
    obtain ⟨b0, b1, b2⟩ := HQ.out.grown hB
    go_wp2_with fail
    clear b0 b1 b2
    refine (HPW.out wo).mono ?_
    rintro e w2 ⟨rfl, hx⟩
    replace hB := BT hB hx
    clear hx
    by_cases hlt : s < M
    · have hsi : (s : Int) < (M : Int) := by omega
      obtain ⟨b0, b1, b2⟩ := HQ.out.grown hB
      have hands : bits .and .i64 (s : Int) (a' : Int) = ((s &&& a' : Nat) : Int) := and_nat (by omega) (by omega)
      have HCI := Lib.hid hC
      clear hC
      obtain ⟨cnd, hcnd⟩ : ∃ cnd : Bool, cnd = (decide (s &&& a' = s) && decide (popc (s : Int) < popc (b : Int)) && canR p ss ((a' - s : Nat) : Int)) := ⟨_, rfl⟩
      have hI : Hid (∀ Y, Below w2.heap.size w2 Y → Y.cell? ⟨w.heap.size, 0, none⟩ = some (.int .i64 p.lo) ∧ Y.cell? ⟨w.heap.size, 1, none⟩ = some (.int .i64 p.hi) ∧ Y.cell? ⟨w.heap.size, 2, none⟩ = some (.slice p.a p.n p.cap)) := fun Y hY => by
        obtain ⟨z0, z1, z2⟩ := HQ.out.grown (BT hB hY)
        exact ⟨z0, z1, z2⟩
      have hbd : Below w2.heap.size w2 w2.drew := Below.drew (Below.refl _ _)
      go_upto_region 7 with fail
      go_cut [41] from 19 to 41 (fun u X => u = .bool cnd ∧ Below w2.heap.size w2 X)
      case first =>
        clear b0 b1 b2
        refine wp_region_seq [(0, true), (1, true), (4, true), (2, false), (3, true), (5, true), (6, true), (7, true), (9, true), (8, false), (10, false), (11, true), (12, true), (13, true), (14, true), (15, true), (17, true), (16, false), (18, true), (19, false), (20, true), (21, true), (22, true)] (fun Y => Y.cell? ⟨w.heap.size, 0, none⟩ = some (.int .i64 p.lo) ∧ Y.cell? ⟨w.heap.size, 1, none⟩ = some (.int .i64 p.hi) ∧ Y.cell? ⟨w.heap.size, 2, none⟩ = some (.slice p.a p.n p.cap)) (by kernel_rfl) (by kernel_rfl) (fun _ _ d _ _ h => by cases d <;> exact h) (hI.out _ hbd) ?_
        refine seq_free (fun F HF Q HQQ => ?_)
        generalize w2.drew = X0 at *
        repeat (first | (refine seq_read rfl (by rfl) _ (fun w' hS => by (try dsimp only at hS); go_simp; (try with_reducible rfl)) ?_; (try simp only [Act.put, List.setIfInBounds_toArray, List.set_cons_zero, List.set_cons_succ])) | (refine seq_skip rfl (by rfl) ?_; (try simp only [Act.put, List.setIfInBounds_toArray, List.set_cons_zero, List.set_cons_succ])))
        refine seq_do rfl (by rfl) (fun K hK => ?_)
        go_simp
        refine (HKN.out X0 (BT HB0.out (BT hB hbd))).mono ?_
        rintro e X1 ⟨rfl, hx⟩
        have hb1 := BT hbd hx
        refine hK _ _ (hI.out _ hb1) ?_
        clear hK K hx
        (try simp only [Act.put, List.setIfInBounds_toArray, List.set_cons_zero, List.set_cons_succ])
        repeat (first | (refine seq_read rfl (by rfl) _ (fun w' hS => by (try dsimp only at hS); go_simp; (try with_reducible rfl)) ?_; (try simp only [Act.put, List.setIfInBounds_toArray, List.set_cons_zero, List.set_cons_succ])) | (refine seq_skip rfl (by rfl) ?_; (try simp only [Act.put, List.setIfInBounds_toArray, List.set_cons_zero, List.set_cons_succ])))
        by_cases hsub : s &&& a' = s
        · rw [show (((s &&& a' : Nat) : Int) == (s : Int)) = true from by rw [hsub]; simp]
          repeat (first | (refine seq_read rfl (by rfl) _ (fun w' hS => by (try dsimp only at hS); go_simp; (try with_reducible rfl)) ?_; (try simp only [Act.put, List.setIfInBounds_toArray, List.set_cons_zero, List.set_cons_succ])) | (refine seq_skip rfl (by rfl) ?_; (try simp only [Act.put, List.setIfInBounds_toArray, List.set_cons_zero, List.set_cons_succ])))
          refine seq_do rfl (by rfl) (fun K hK => ?_)
          go_simp
          refine (HSZ.out s X1 (by omega)).mono ?_
          rintro e X2 ⟨rfl, hx⟩
          have hb2 := BT hb1 hx
          refine hK _ _ (hI.out _ hb2) ?_
          clear hK K hx
          (try simp only [Act.put, List.setIfInBounds_toArray, List.set_cons_zero, List.set_cons_succ])
          repeat (first | (refine seq_read rfl (by rfl) _ (fun w' hS => by (try dsimp only at hS); go_simp; (try with_reducible rfl)) ?_; (try simp only [Act.put, List.setIfInBounds_toArray, List.set_cons_zero, List.set_cons_succ])) | (refine seq_skip rfl (by rfl) ?_; (try simp only [Act.put, List.setIfInBounds_toArray, List.set_cons_zero, List.set_cons_succ])))
          refine seq_do rfl (by rfl) (fun K hK => ?_)
          go_simp
          refine (HSZ.out b X2 (by omega)).mono ?_
          rintro e X3 ⟨rfl, hx⟩
          have hb3 := BT hb2 hx
          refine hK _ _ (hI.out _ hb3) ?_
          clear hK K hx
          (try simp only [Act.put, List.setIfInBounds_toArray, List.set_cons_zero, List.set_cons_succ])
          repeat (first | (refine seq_read rfl (by rfl) _ (fun w' hS => by (try dsimp only at hS); go_simp; (try with_reducible rfl)) ?_; (try simp only [Act.put, List.setIfInBounds_toArray, List.set_cons_zero, List.set_cons_succ])) | (refine seq_skip rfl (by rfl) ?_; (try simp only [Act.put, List.setIfInBounds_toArray, List.set_cons_zero, List.set_cons_succ])))
          by_cases hp : popc (s : Int) < popc (b : Int)
          · rw [show decide (popc (s : Int) < popc (b : Int)) = true from decide_eq_true hp]
            have hsN := sub_and.1 hsub
            have hsa := sub_le hsN
            have hsb : subN (a' - s) a' := fun i hi => by
              rw [sub_minus s a' hsN, Bool.and_eq_true] at hi
              exact hi.1
            have e1 : IntKind.i64.wrap ((a' : Int) - (s : Int)) = ((a' - s : Nat) : Int) := by rw [IntWalk.i64_in _ (by omega)]; omega
            repeat (first | (refine seq_read rfl (by rfl) _ (fun w' hS => by (try dsimp only at hS); go_simp; (try with_reducible rfl)) ?_; (try simp only [Act.put, List.setIfInBounds_toArray, List.set_cons_zero, List.set_cons_succ])) | (refine seq_skip rfl (by rfl) ?_; (try simp only [Act.put, List.setIfInBounds_toArray, List.set_cons_zero, List.set_cons_succ])))
            refine seq_do rfl (by rfl) (fun K hK => ?_)
            go_simp
            refine (HKN.out X3 (BT HB0.out (BT hB hb3))).mono ?_
            rintro e X4 ⟨rfl, hx⟩
            have hb4 := BT hb3 hx
            refine hK _ _ (hI.out _ hb4) ?_
            clear hK K hx
            (try simp only [Act.put, List.setIfInBounds_toArray, List.set_cons_zero, List.set_cons_succ])
            repeat (first | (refine seq_read rfl (by rfl) _ (fun w' hS => by (try dsimp only at hS); go_simp; (try with_reducible rfl)) ?_; (try simp only [Act.put, List.setIfInBounds_toArray, List.set_cons_zero, List.set_cons_succ])) | (refine seq_skip rfl (by rfl) ?_; (try simp only [Act.put, List.setIfInBounds_toArray, List.set_cons_zero, List.set_cons_succ])))
            refine seq_do rfl (by rfl) (fun K hK => ?_)
            go_simp
            refine (HSC.out (a' - s) X4 (by omega) hsb (BT HB0.out (BT hB hb4))).mono ?_
            rintro e X5 ⟨sa, cap, rfl, -, hx⟩
            have hb5 := BT hb4 hx
            refine hK _ _ (hI.out _ hb5) ?_
            clear hK K hx
            have hn := HSN.out (a' - s) (by omega) hsb
            generalize (scL p ss (a' - s)).length = l at *
            have hcc : cnd = decide (0 < (l : Int)) := by
              rw [hcnd, decide_eq_true hsub, decide_eq_true hp]
              cases hcn : canR p ss ((a' - s : Nat) : Int)
              · have := hn.2 hcn; subst this; simp
              · have hl : ¬ l = 0 := fun h => by rw [hn.1 h] at hcn; cases hcn
                rw [decide_eq_true (show (0 : Int) < (l : Int) from by omega)]; rfl
            (try simp only [Act.put, List.setIfInBounds_toArray, List.set_cons_zero, List.set_cons_succ])
            repeat (first | (refine seq_read rfl (by rfl) _ (fun w' hS => by (try dsimp only at hS); go_simp; (try with_reducible rfl)) ?_; (try simp only [Act.put, List.setIfInBounds_toArray, List.set_cons_zero, List.set_cons_succ])) | (refine seq_skip rfl (by rfl) ?_; (try simp only [Act.put, List.setIfInBounds_toArray, List.set_cons_zero, List.set_cons_succ])))
            apply seq_end
            refine HF _ _ ?_
            first | show Exit.inBlock _ _ Exit.normal _ _ | show Exit.then _ _ Exit.normal _ _ | skip
            go_wp2_with fail
            go_meet
            exact ⟨by rw [hcc]; simp, hb5⟩
          · rw [show decide (popc (s : Int) < popc (b : Int)) = false from decide_eq_false hp]
            have hcc : cnd = false := by rw [hcnd, decide_eq_false hp]; simp
            repeat (first | (refine seq_read rfl (by rfl) _ (fun w' hS => by (try dsimp only at hS); go_simp; (try with_reducible rfl)) ?_; (try simp only [Act.put, List.setIfInBounds_toArray, List.set_cons_zero, List.set_cons_succ])) | (refine seq_skip rfl (by rfl) ?_; (try simp only [Act.put, List.setIfInBounds_toArray, List.set_cons_zero, List.set_cons_succ])))
            apply seq_end
            refine HF _ _ ?_
            first | show Exit.inBlock _ _ Exit.normal _ _ | show Exit.then _ _ Exit.normal _ _ | skip
            go_wp2_with fail
            go_meet
            exact ⟨by rw [hcc], hb3⟩
        · rw [show (((s &&& a' : Nat) : Int) == (s : Int)) = false from by rw [beq_eq_false_iff_ne]; omega]
          have hcc : cnd = false := by rw [hcnd, decide_eq_false hsub]; simp
          repeat (first | (refine seq_read rfl (by rfl) _ (fun w' hS => by (try dsimp only at hS); go_simp; (try with_reducible rfl)) ?_; (try simp only [Act.put, List.setIfInBounds_toArray, List.set_cons_zero, List.set_cons_succ])) | (refine seq_skip rfl (by rfl) ?_; (try simp only [Act.put, List.setIfInBounds_toArray, List.set_cons_zero, List.set_cons_succ])))
          apply seq_end
          refine HF _ _ ?_
          first | show Exit.inBlock _ _ Exit.normal _ _ | show Exit.then _ _ Exit.normal _ _ | skip
          go_wp2_with fail
          go_meet
          exact ⟨by rw [hcc], hb1⟩
      case rest =>
      obtain ⟨rfl, hbc⟩ := hcut
      obtain ⟨w9, rfl⟩ : ∃ w9 : World, w9 = wc := ⟨_, rfl⟩
      replace hB := BT hB hbc
      clear hbc b0 b1 b2 hands hI hbd
      have e4 : IntKind.i64.wrap ((s : Int) + 1) = ((s + 1 : Nat) : Int) := by rw [IntWalk.i64_in _ (by omega)]; omega
      cases hcn : cnd
      · have hC := dr_keep ha2 HCI.out (fun h1 h2 => by
          rw [hcnd, sub_and.2 h1, decide_eq_true h2] at hcn
          simpa using hcn)
        go_wp2_with fail
        go_roundw
        case rel => exact ⟨b, s + 1, by omega, rfl, by go_num, hC, hB⟩
        case measure => simp [intOf]; omega
      · rw [hcnd] at hcn
        simp only [Bool.and_eq_true, decide_eq_true_eq] at hcn
        have hC := dr_take HCI.out (sub_and.1 hcn.1.1) hcn.1.2 hcn.2
        go_wp2_with fail
        go_roundw
        case rel => exact ⟨s, s + 1, by omega, rfl, by go_num, hC, hB⟩
        case measure => simp [intOf]; omega
    · obtain rfl : s = M := by omega
      have hrv := HEND.out b hC
      subst hrv
      have hfin := BT HB0.out hB
      go_wp2_with fail
      exact bodyPost_ret (v := .tuple #[.int .i64 (b : Int), .int .i64 0]) (by simp [results, Tryz.results22, go_sem]) rfl ⟨rfl, hfin⟩
end Go.Proofs.YtdkegkacpdkjgaaGreat

namespace Go.Proofs.YtdkegkacpdkjgaaGreat
open Go.RowKit

set_option maxRecDepth 100000 in
set_option maxHeartbeats 16000000 in
theorem finds_walk (p : Pl) (ss : List St) (m n : Int) (w : World) (hnl : ss.length = p.n) (hst : StarsIn w p.a ss) :
    Calls Tryz.prog 4 #[p.val, .int .i64 m, .int .i64 n] w (Ret (.bool true) w) := by
  have hmf : ∀ (fn : Fn) (first cap : Array Value) (w : World), (Instr.makeFunc fn first cap).run Tryz.prog w = .ok (.func fn first cap) w := fun _ _ _ _ => rfl
  unfold Pl.val
  obtain ⟨W0, hW0⟩ : ∃ X, w.alloc (.cells #[.int .i64 p.lo, .int .i64 p.hi, .slice p.a p.n p.cap] 26) = X := ⟨_, rfl⟩
  have hBw : Below w.heap.size w W0 := by rw [← hW0]; exact newB _ _
  have hQ : BoxP W0 w.heap.size p := by rw [← hW0]; exact boxP_new w p _
  have hS := stars_below hst hBw
  clear hst
  have hB : Below W0.heap.size W0 W0 := Below.refl _ _
  go_enter Tryz.func4, Tryz.ntmps4
  obtain ⟨p0, p1, p2⟩ := id hQ
  go_upto_region 1 with fail
  clear hW0
  go_cut [38] from 27 to 38 (fun u X => ∃ bb : Bool, u = .bool bb ∧ (bb = false → p.n ≤ 30) ∧ Below W0.heap.size W0 X)
  case first =>
    go_wp2_with fail
    clear p0 p1 p2
    refine (heavy_any p ss 30 1048576 W0 hnl hS).mono ?_
    rintro e Y0 ⟨bh, rfl, h30, hx⟩
    replace hB := BT hB hx
    cases bh
    rotate_left
    · go_wp2_with fail
      go_meet
      exact ⟨true, rfl, fun h => (by cases h), hB⟩
    have h31 := h30 rfl
    have hm : PlAt p ss W0 := ⟨hnl, by omega, hS⟩
    obtain ⟨p0, p1, p2⟩ := hQ.grown hB
    by_cases h8 : 8 < (p.n : Int)
    · go_wp2_with fail
      clear p0 p1 p2
      refine (plateR_any p ss Y0 (hm.below hB (Nat.le_refl _))).mono ?_
      rintro e Y1 ⟨rfl, hx1⟩
      replace hB := BT hB hx1
      cases hv : plB p ss
      · go_wp2_with fail
        go_meet
        exact ⟨false, rfl, fun _ => h31, hB⟩
      · go_wp2_with fail
        go_meet
        exact ⟨true, rfl, fun h => (by cases h), hB⟩
    · go_wp2_with fail
      go_meet
      exact ⟨false, rfl, fun _ => h31, hB⟩
  case rest =>
  obtain ⟨bb, rfl, h30, hB'⟩ := hcut
  obtain ⟨Y0, rfl⟩ : ∃ Y0 : World, Y0 = wc := ⟨_, rfl⟩
  clear hB p0 p1 p2
  have hB := hB'
  clear hB'
  cases bb
  rotate_left
  · go_wp2_with fail
    refine (alive_any _).mono ?_
    rintro e wz ⟨rfl, hz⟩
    have hB := BT hB hz
    go_wp2_with fail
    go_ret
    exact ⟨rfl, hBw.trans (hB.mono hBw.size)⟩
  have h31 := h30 rfl
  clear h30
  have hm : PlAt p ss W0 := ⟨hnl, by omega, hS⟩
  have hok : plB p ss = true → PlOk p ss := fun h => plOk hm h
  obtain ⟨a, hk⟩ := knO_of hok
  have HT : Hid (BoxP W0 w.heap.size p ∧ PlAt p ss W0) := ⟨hQ, hm⟩
  obtain ⟨fa, fb, fc, fd, fe, hrf⟩ := repB_eq (find_four p ss m n)
  obtain ⟨ca, ce, hrc⟩ := repI_eq (clash_one p ss)
  obtain ⟨da, de, hrd⟩ := repI_eq (drop_one p ss)
  obtain ⟨pa, pb, pe, -, hrp⟩ := repW_eq (poor_two p ss)
  have HF : Hid (∀ Y, Below W0.heap.size W0 Y → Calls Tryz.prog 17 #[.agg #[.int .i64 p.lo, .int .i64 p.hi, .slice p.a p.n p.cap], .int .i64 m, .int .i64 n] Y (Ret (.tuple #[.agg #[.int .i64 fa, .int .i64 fb], .agg #[.int .i64 fc, .int .i64 fd], .int .i64 fe]) Y)) := fun Y hY => by
    have h0 := find2_any m n p ss Y (HT.out.2.below hY (Nat.le_refl _))
    rw [hrf] at h0
    exact h0
  have HFR : Hid (∀ Y, Below W0.heap.size W0 Y → Calls Tryz.prog 18 #[.agg #[.int .i64 p.lo, .int .i64 p.hi, .slice p.a p.n p.cap], .int .i64 m, .int .i64 n] Y (Ret (.tuple #[.agg #[.int .i64 fa, .int .i64 fb], .agg #[.int .i64 fc, .int .i64 fd], .int .i64 fe]) Y)) := fun Y hY => by
    have h0 := findRR_any p ss a m n Y (HT.out.2.below hY (Nat.le_refl _)) hk hok
    rw [hrf] at h0
    exact h0
  have HC : Hid (∀ Y, Below W0.heap.size W0 Y → Calls Tryz.prog 19 #[.agg #[.int .i64 p.lo, .int .i64 p.hi, .slice p.a p.n p.cap]] Y (Ret (.tuple #[.int .i64 ca, .int .i64 ce]) Y)) := fun Y hY => by
    have h0 := clash_any p ss Y (HT.out.2.below hY (Nat.le_refl _))
    rw [hrc] at h0
    exact h0
  have HCR : Hid (∀ Y, Below W0.heap.size W0 Y → Calls Tryz.prog 20 #[.agg #[.int .i64 p.lo, .int .i64 p.hi, .slice p.a p.n p.cap]] Y (Ret (.tuple #[.int .i64 ca, .int .i64 ce]) Y)) := fun Y hY => by
    have h0 := clashRR_any p ss a Y (HT.out.2.below hY (Nat.le_refl _)) hk hok
    rw [hrc] at h0
    exact h0
  have HD : Hid (∀ Y, Below W0.heap.size W0 Y → Calls Tryz.prog 21 #[.agg #[.int .i64 p.lo, .int .i64 p.hi, .slice p.a p.n p.cap]] Y (Ret (.tuple #[.int .i64 da, .int .i64 de]) Y)) := fun Y hY => by
    have h0 := drop_any p ss Y (HT.out.2.below hY (Nat.le_refl _))
    rw [hrd] at h0
    exact h0
  have HDR : Hid (∀ Y, Below W0.heap.size W0 Y → Calls Tryz.prog 22 #[.agg #[.int .i64 p.lo, .int .i64 p.hi, .slice p.a p.n p.cap]] Y (Ret (.tuple #[.int .i64 da, .int .i64 de]) Y)) := fun Y hY => by
    have h0 := dropRR_any p ss a Y (HT.out.2.below hY (Nat.le_refl _)) hk hok
    rw [hrd] at h0
    exact h0
  have HP : Hid (∀ Y, Below W0.heap.size W0 Y → Calls Tryz.prog 23 #[.agg #[.int .i64 p.lo, .int .i64 p.hi, .slice p.a p.n p.cap]] Y (Ret (.tuple #[.int .i64 pa, .int .i64 pb, .int .i64 pe]) Y)) := fun Y hY => by
    have h0 := poor_any p ss Y (HT.out.2.below hY (Nat.le_refl _))
    rw [hrp] at h0
    exact h0
  have HPR : Hid (∀ Y, Below W0.heap.size W0 Y → Calls Tryz.prog 24 #[.agg #[.int .i64 p.lo, .int .i64 p.hi, .slice p.a p.n p.cap]] Y (Ret (.tuple #[.int .i64 pa, .int .i64 pb, .int .i64 pe]) Y)) := fun Y hY => by
    have h0 := poorRR_any p ss a Y (HT.out.2.below hY (Nat.le_refl _)) hk hok
    rw [hrp] at h0
    exact h0
  clear hrf hrc hrd hrp hm hok hk hQ hS hnl
  obtain ⟨p0, p1, p2⟩ := HT.out.1.grown (hB)
  go_wp2_with fail
  clear p0 p1 p2
  refine (HF.out Y0 hB).mono ?_
  rintro e Y1 ⟨rfl, hx⟩
  replace hB := BT hB hx
  clear hx
  have hx : Below Y1.heap.size Y1 ((Y1.alloc (.cells #[.int .i64 fa, .int .i64 fb] 23)).alloc (.cells #[.int .i64 fc, .int .i64 fd] 23)) := BA (newB _ _) _
  have xs : Spn2 ((Y1.alloc (.cells #[.int .i64 fa, .int .i64 fb] 23)).alloc (.cells #[.int .i64 fc, .int .i64 fd] 23)) Y1.heap.size fa fb := (spn2_new _ _ _ _).grown (newB _ _)
  have xt : Spn2 ((Y1.alloc (.cells #[.int .i64 fa, .int .i64 fb] 23)).alloc (.cells #[.int .i64 fc, .int .i64 fd] 23)) (Y1.heap.size + 1) fc fd := by have := spn2_new (Y1.alloc (.cells #[.int .i64 fa, .int .i64 fb] 23)) fc fd 23; rw [World.size_alloc] at this; exact this
  have hge1 : W0.heap.size ≤ Y1.heap.size := hB.size
  replace hB := BT hB hx
  clear hx
  obtain ⟨p0, p1, p2⟩ := HT.out.1.grown (hB)
  go_wp2_with fail
  generalize (Y1.alloc (.cells #[.int .i64 fa, .int .i64 fb] 23)).alloc (.cells #[.int .i64 fc, .int .i64 fd] 23) = Z1 at *
  generalize Y1.heap.size = B1 at *
  clear p0 p1 p2
  refine (HFR.out Z1 hB).mono ?_
  rintro e Y2 ⟨rfl, hx⟩
  replace xs := xs.grown hx
  replace xt := xt.grown hx
  replace hB := BT hB hx
  clear hx
  have hx : Below Y2.heap.size Y2 ((Y2.alloc (.cells #[.int .i64 fa, .int .i64 fb] 23)).alloc (.cells #[.int .i64 fc, .int .i64 fd] 23)) := BA (newB _ _) _
  have xu : Spn2 ((Y2.alloc (.cells #[.int .i64 fa, .int .i64 fb] 23)).alloc (.cells #[.int .i64 fc, .int .i64 fd] 23)) Y2.heap.size fa fb := (spn2_new _ _ _ _).grown (newB _ _)
  have xv : Spn2 ((Y2.alloc (.cells #[.int .i64 fa, .int .i64 fb] 23)).alloc (.cells #[.int .i64 fc, .int .i64 fd] 23)) (Y2.heap.size + 1) fc fd := by have := spn2_new (Y2.alloc (.cells #[.int .i64 fa, .int .i64 fb] 23)) fc fd 23; rw [World.size_alloc] at this; exact this
  have hge2 : W0.heap.size ≤ Y2.heap.size := hB.size
  replace xs := xs.grown hx
  replace xt := xt.grown hx
  replace hB := BT hB hx
  clear hx
  obtain ⟨p0, p1, p2⟩ := HT.out.1.grown (hB)
  go_wp2_with fail
  generalize (Y2.alloc (.cells #[.int .i64 fa, .int .i64 fb] 23)).alloc (.cells #[.int .i64 fc, .int .i64 fd] 23) = Z2 at *
  generalize Y2.heap.size = B2 at *
  clear p0 p1 p2
  refine (HC.out Z2 hB).mono ?_
  rintro e Y3 ⟨rfl, hx⟩
  replace xs := xs.grown hx
  replace xt := xt.grown hx
  replace xu := xu.grown hx
  replace xv := xv.grown hx
  replace hB := BT hB hx
  clear hx
  obtain ⟨p0, p1, p2⟩ := HT.out.1.grown (hB)
  go_wp2_with fail
  clear p0 p1 p2
  refine (HCR.out Y3 hB).mono ?_
  rintro e Y4 ⟨rfl, hx⟩
  replace xs := xs.grown hx
  replace xt := xt.grown hx
  replace xu := xu.grown hx
  replace xv := xv.grown hx
  replace hB := BT hB hx
  clear hx
  obtain ⟨p0, p1, p2⟩ := HT.out.1.grown (hB)
  go_wp2_with fail
  clear p0 p1 p2
  refine (HD.out Y4 hB).mono ?_
  rintro e Y5 ⟨rfl, hx⟩
  replace xs := xs.grown hx
  replace xt := xt.grown hx
  replace xu := xu.grown hx
  replace xv := xv.grown hx
  replace hB := BT hB hx
  clear hx
  obtain ⟨p0, p1, p2⟩ := HT.out.1.grown (hB)
  go_wp2_with fail
  clear p0 p1 p2
  refine (HDR.out Y5 hB).mono ?_
  rintro e Y6 ⟨rfl, hx⟩
  replace xs := xs.grown hx
  replace xt := xt.grown hx
  replace xu := xu.grown hx
  replace xv := xv.grown hx
  replace hB := BT hB hx
  clear hx
  obtain ⟨p0, p1, p2⟩ := HT.out.1.grown (hB)
  go_wp2_with fail
  clear p0 p1 p2
  refine (HP.out Y6 hB).mono ?_
  rintro e Y7 ⟨rfl, hx⟩
  replace xs := xs.grown hx
  replace xt := xt.grown hx
  replace xu := xu.grown hx
  replace xv := xv.grown hx
  replace hB := BT hB hx
  clear hx
  obtain ⟨p0, p1, p2⟩ := HT.out.1.grown (hB)
  go_wp2_with fail
  clear p0 p1 p2
  refine (HPR.out Y7 hB).mono ?_
  rintro e Y8 ⟨rfl, hx⟩
  replace xs := xs.grown hx
  replace xt := xt.grown hx
  replace xu := xu.grown hx
  replace xv := xv.grown hx
  replace hB := BT hB hx
  clear hx
  obtain ⟨xsc, xsd, -, -⟩ := id xs
  obtain ⟨xtc, xtd, -, -⟩ := id xt
  obtain ⟨xuc, xud, -, -⟩ := id xu
  obtain ⟨xvc, xvd, -, -⟩ := id xv
  go_wp2_with fail
  clear xsc xsd xtc xtd xuc xud xvc xvd
  refine (alive_any _).mono ?_
  rintro e wz ⟨rfl, hz⟩
  replace hB := BT hB hz
  go_wp2_with fail
  go_ret
  exact ⟨rfl, hBw.trans (hB.mono hBw.size)⟩
end Go.Proofs.YtdkegkacpdkjgaaGreat
