/- ScrewMore: facts that the walk takes; and 'append' onto a new slice of settings. -/
import Derived.Test.YtmfbkgdlfackcaaMo1
import Derived.Test.YtmfbkgdlfackcaaPar
import Derived.Deep.AppendLies
namespace Go.Proofs.Ytmfbkgdlfackcaa
open Fw Go.RowKit

theorem place_ok0 {h : Hd} {xs : List (Int × Int)} {ss : List Sett} (hv : validH h xs ss = true) {a p1 p2 : Int} (q : reply (placeA h xs ss a) = .tuple #[.agg #[.int .i64 p1, .int .i64 p2], .int .i64 0]) :
    placeA h xs ss a = .ok (.agg #[.int .i64 p1, .int .i64 p2]) := by
  have hn : ∀ c : Int, c ≠ 0 → placeA h xs ss a = .error c → False := fun c hc e => by
    rw [e] at q
    unfold reply at q
    simp at q
    omega
  by_cases hx : ∃ x, Tru h.sLo h.sHi (tellsOf xs h.eLo h.eHi ss) x
  · cases hi : isImg h.images a
    · exact absurd (place_range hv hi) (fun e => hn 2 (by omega) e)
    · cases hc : hasC a (cntsOf ss)
      · exact absurd (place_doubt hv hi hx hc) (fun e => hn 12 (by omega) e)
      · obtain ⟨lo, hi', e, _⟩ := place_ok hv hi hx hc
        rw [e] at q ⊢
        unfold reply at q
        simp at q
        obtain ⟨rfl, rfl⟩ := q
        rfl
  · cases hi : isImg h.images a
    · exact absurd (place_range hv hi) (fun e => hn 2 (by omega) e)
    · exact absurd (place_clash hv hi hx) (fun e => hn 10 (by omega) e)
theorem apart_ok0 {h : Hd} {xs : List (Int × Int)} {ss : List Sett} (hv : validH h xs ss = true) {a b p1 p2 : Int} (q : reply (apartA h xs ss a b) = .tuple #[.agg #[.int .i64 p1, .int .i64 p2], .int .i64 0]) :
    apartA h xs ss a b = .ok (.agg #[.int .i64 p1, .int .i64 p2]) := by
  have hn : ∀ c : Int, c ≠ 0 → apartA h xs ss a b = .error c → False := fun c hc e => by
    rw [e] at q
    unfold reply at q
    simp at q
    omega
  by_cases hi : isImg h.images a = true ∧ isImg h.images b = true
  · by_cases hx : ∃ x, Tru h.sLo h.sHi (tellsOf xs h.eLo h.eHi ss) x
    · by_cases hc : a = b ∨ (hasC a (cntsOf ss) = true ∧ hasC b (cntsOf ss) = true)
      · obtain ⟨lo, hi', e, _⟩ := apart_ok hv hi.1 hi.2 hx hc
        rw [e] at q ⊢
        unfold reply at q
        simp at q
        obtain ⟨rfl, rfl⟩ := q
        rfl
      · exact absurd (apart_doubt hv hi.1 hi.2 hx (fun e => hc (.inl e)) (fun e => hc (.inr e))) (fun e => hn 12 (by omega) e)
    · exact absurd (apart_clash hv hi.1 hi.2 hx) (fun e => hn 10 (by omega) e)
  · exact absurd (apart_range hv hi) (fun e => hn 2 (by omega) e)
theorem tup_inj {a b c a' b' c' : Int} (h : (Value.tuple #[.agg #[.int .i64 a, .int .i64 b], .int .i64 c]) = .tuple #[.agg #[.int .i64 a', .int .i64 b'], .int .i64 c']) : a = a' ∧ b = b' ∧ c = c' := by
  simp at h; exact ⟨h.1.1, h.1.2, h.2⟩
section
variable {z h : Hd} {zx xs : List (Int × Int)} {zs ss : List Sett} {a b s1 s2 p1 p2 q1 q2 d1 d2 e f g k : Int}
/-- What one measure tells, and another one that tells more. -/
theorem more_facts (t : Tells2 z zx zs h xs ss) (qs : reply (sumA h xs ss) = .tuple #[.agg #[.int .i64 s1, .int .i64 s2], .int .i64 e]) (qp : reply (placeA h xs ss a) = .tuple #[.agg #[.int .i64 p1, .int .i64 p2], .int .i64 f])
    (qd : reply (apartA h xs ss a b) = .tuple #[.agg #[.int .i64 d1, .int .i64 d2], .int .i64 k]) :
    ∃ t1 t2 j r1 r2 l u1 u2 v : Int, reply (sumA z zx zs) = .tuple #[.agg #[.int .i64 t1, .int .i64 t2], .int .i64 j] ∧ reply (placeA z zx zs a) = .tuple #[.agg #[.int .i64 r1, .int .i64 r2], .int .i64 l] ∧
      reply (apartA z zx zs a b) = .tuple #[.agg #[.int .i64 u1, .int .i64 u2], .int .i64 v] ∧
      (j = 10 ∨ (j = 0 ∧ e = 0 ∧ withinB t1 t2 s1 s2 = true ∧ (f = 0 → l = 0 ∧ withinB r1 r2 p1 p2 = true) ∧ (k = 0 → v = 0 ∧ withinB u1 u2 d1 d2 = true))) := by
  obtain ⟨t1, t2, j, qt⟩ := reply_eq (sumA_sp z zx zs)
  obtain ⟨r1, r2, l, qr⟩ := reply_eq (placeA_sp z zx zs a)
  obtain ⟨u1, u2, v, qu⟩ := reply_eq (apartA_sp z zx zs a b)
  refine ⟨t1, t2, j, r1, r2, l, u1, u2, v, qt, qr, qu, ?_⟩
  rcases more_sum t with h1 | ⟨lo, hi, lo', hi', e1, e2, w1, hx⟩
  · left
    rw [h1] at qt
    have h2 := tup_inj (a := 0) (b := 0) (c := 10) qt
    omega
  · right
    rw [e1] at qt
    rw [e2] at qs
    obtain ⟨rfl, rfl, rfl⟩ := tup_inj (c := 0) qt
    obtain ⟨rfl, rfl, rfl⟩ := tup_inj (c := 0) qs
    refine ⟨rfl, rfl, by simp [withinB]; omega, fun hf => ?_, fun hk => ?_⟩
    · subst hf
      obtain ⟨a1, a2, b1, b2, g1, g2, g3⟩ := more_place t hx (place_ok0 t.vh qp)
      injection g1 with g1; simp at g1
      obtain ⟨rfl, rfl⟩ := g1
      rw [g2] at qr
      obtain ⟨rfl, rfl, rfl⟩ := tup_inj (c := 0) qr
      exact ⟨rfl, by simp [withinB]; omega⟩
    · subst hk
      obtain ⟨a1, a2, b1, b2, g1, g2, g3⟩ := more_apart t hx (apart_ok0 t.vh qd)
      injection g1 with g1; simp at g1
      obtain ⟨rfl, rfl⟩ := g1
      rw [g2] at qu
      obtain ⟨rfl, rfl, rfl⟩ := tup_inj (c := 0) qu
      exact ⟨rfl, by simp [withinB]; omega⟩
theorem place_rng (hv : validH h xs ss = true) (hp : placeA h xs ss a = .ok (.agg #[.int .i64 p1, .int .i64 p2])) : (-200000 ≤ p1 ∧ p1 ≤ 200000) ∧ (-200000 ≤ p2 ∧ p2 ≤ 200000) := by
  obtain ⟨va, vb, vc, vd, ve, vf, vg⟩ := valid_has hv
  have key : (∃ x, Tru h.sLo h.sHi (tellsOf xs h.eLo h.eHi ss) x) ∧ isImg h.images a = true ∧ hasC a (cntsOf ss) = true := by
    by_cases hx : ∃ x, Tru h.sLo h.sHi (tellsOf xs h.eLo h.eHi ss) x
    · cases hi : isImg h.images a
      · rw [place_range hv hi] at hp; cases hp
      · cases hc : hasC a (cntsOf ss)
        · rw [place_doubt hv hi hx hc] at hp; cases hp
        · exact ⟨hx, rfl, rfl⟩
    · cases hi : isImg h.images a
      · rw [place_range hv hi] at hp; cases hp
      · rw [place_clash hv hi hx] at hp; cases hp
  obtain ⟨hx, hi, hc⟩ := key
  obtain ⟨lo, hi', e, ex⟩ := place_ok hv hi hx hc
  rw [e] at hp
  injection hp with hp; simp at hp
  obtain ⟨rfl, rfl⟩ := hp
  rw [hasC_cnts, List.any_eq_true] at hc
  obtain ⟨s, hs, hsa⟩ := hc
  have hsa : a = s.1 := by simpa using hsa
  obtain ⟨g1, g2, g3⟩ := vg s hs
  obtain ⟨v1, v2, v3⟩ := evB_at vb (show (s.2.1 / 1000).toNat < xs.length by omega)
  have hb : ∀ x, Tru h.sLo h.sHi (tellsOf xs h.eLo h.eHi ss) x → -200000 ≤ x (2 + a.toNat) - x 0 ∧ x (2 + a.toNat) - x 0 ≤ 200000 := fun x hx => by
    have hk := hx.2 (tellOf xs h.eLo h.eHi s) (List.mem_map.2 ⟨s, hs, rfl⟩)
    have h1 := hx.1
    unfold Keeps tellOf at hk
    dsimp only at hk
    rw [trav_eq (by omega) (by omega) (by omega), trav_eq (by omega) (by omega) (by omega), ← hsa] at hk
    split at hk <;> omega
  obtain ⟨_, ⟨x, hx1, hx2⟩, z, hz1, hz2⟩ := ex
  have := hb x hx1
  have := hb z hz1
  omega
/-- Two places, and how far they are apart. -/
theorem more_near (hv : validH h xs ss = true) (qp : reply (placeA h xs ss a) = .tuple #[.agg #[.int .i64 p1, .int .i64 p2], .int .i64 f]) (qq : reply (placeA h xs ss b) = .tuple #[.agg #[.int .i64 q1, .int .i64 q2], .int .i64 g])
    (qd : reply (apartA h xs ss a b) = .tuple #[.agg #[.int .i64 d1, .int .i64 d2], .int .i64 0]) (hab : a ≠ b) : f = 0 ∧ g = 0 ∧ withinB d1 d2 (q1 - p2) (q2 - p1) = true ∧ (-200000 ≤ p1 ∧ p1 ≤ 200000) ∧ (-200000 ≤ p2 ∧ p2 ≤ 200000) ∧ (-200000 ≤ q1 ∧ q1 ≤ 200000) ∧ (-200000 ≤ q2 ∧ q2 ≤ 200000) := by
  obtain ⟨dl, dh, pl, ph, ql, qh, g1, g2, g3, g4⟩ := apart_places hv hab (apart_ok0 hv qd)
  injection g1 with g1; simp at g1
  obtain ⟨rfl, rfl⟩ := g1
  rw [g2] at qp
  rw [g3] at qq
  obtain ⟨rfl, rfl, rfl⟩ := tup_inj (c := 0) qp
  obtain ⟨rfl, rfl, rfl⟩ := tup_inj (c := 0) qq
  have r1 := place_rng hv g2
  have r2 := place_rng hv g3
  exact ⟨rfl, rfl, by simp [withinB]; omega, r1.1, r1.2, r2.1, r2.2⟩
theorem drop_rng (hv : validH h xs ss = true) : ∃ q : Int, replyI (dropA h xs ss) = .tuple #[.int .i64 q, .int .i64 0] ∧ 0 ≤ q ∧ q < 4096 ∧ dropR h xs ss = q := by
  obtain ⟨q, h1, h2, _⟩ := drop_best hv
  obtain ⟨_, _, _, _, _, hl, _⟩ := valid_has hv
  obtain ⟨p1, p2, p3⟩ := pow_12 hl
  exact ⟨q, by unfold dropA; rw [if_pos hv, h1]; rfl, by omega, by omega, h1⟩
end
/-- Nothing is appended. -/
theorem run_append_nothing {P : Program} {w : World} (base : Nat) (t ty e : TypeId) (i : TypeInfo) (size : Nat) (ht : P.underlying t = some (.slice e)) (hi : P.info? e = some i)
    (v : Value) (n : Nat) (xs : List Value) (hown : w.ownsRow base e size v n xs) (ao : Option Addr) (c : Nat) : (Builtin.append_ #[t, t] ty #[v, .slice ao 0 c]).run P w = .ok v w := by
  rcases hown.2 with ⟨rfl, rfl⟩ | ⟨g, cap, cur, rfl, _, _, hnc, _⟩
  · cases ao <;> simp [Builtin.append_, run_underlying ht, sizeOf, typeInfo, hi, Builtin.lenOf, Builtin.firstCells, loadCells, loadCellsFrom]
  · cases ao <;> simp [Builtin.append_, run_underlying ht, sizeOf, typeInfo, hi, Builtin.lenOf, Builtin.firstCells, hnc, storeCells, loadCells, loadCellsFrom]
theorem news_sett {w : World} {b o : Nat} {ss : List Sett} (hc : ∀ k, k < ss.length → w.cell? ⟨b, o + k * 3, none⟩ = some (.int .i64 (ss.getD k (0, 0, false)).1) ∧ w.cell? ⟨b, o + k * 3 + 1, none⟩ = some (.int .i64 (ss.getD k (0, 0, false)).2.1) ∧ w.cell? ⟨b, o + k * 3 + 2, none⟩ = some (.bool (ss.getD k (0, 0, false)).2.2) ∧ (ss.getD k (0, 0, false)).2.1 ≤ 9223372036854775807) :
    ∀ j u, (ss.flatMap settV)[j]? = some u → w.cell? ((⟨b, o, none⟩ : Addr).add j) = some u := by
  intro j u hj
  have hl : (ss.flatMap settV).length = ss.length * 3 := by
    clear hj hc
    induction ss with
    | nil => rfl
    | cons s ss ih => rw [List.flatMap_cons, List.length_append, ih]; simp [settV]; omega
  have hlt : j < ss.length * 3 := by rw [← hl]; exact (List.getElem?_eq_some_iff.1 hj).1
  have hadd : (⟨b, o, none⟩ : Addr).add j = ⟨b, o + j, none⟩ := by unfold Addr.add; split <;> simp_all
  rw [hadd]
  have hk : j / 3 < ss.length := by omega
  obtain ⟨c0, c1, c2, _⟩ := hc _ hk
  obtain ⟨f0, f1, f2⟩ := flat_sett ss _ hk
  have hr : j = j / 3 * 3 ∨ j = j / 3 * 3 + 1 ∨ j = j / 3 * 3 + 2 := by omega
  rcases hr with h | h | h
  · rw [h] at hj ⊢; rw [f0] at hj; injection hj with hj; rw [← hj, ← c0]
  · rw [h] at hj ⊢; rw [f1] at hj; injection hj with hj; rw [← hj, ← c1]; rfl
  · rw [h] at hj ⊢; rw [f2] at hj; injection hj with hj; rw [← hj, ← c2]; rfl
theorem flat_len (ss : List Sett) : (ss.flatMap settV).length = ss.length * 3 := by
  induction ss with
  | nil => rfl
  | cons s ss ih => rw [List.flatMap_cons, List.length_append, ih]; simp [settV]; omega
/-- All settings that came in, onto a row that is new. -/
theorem wp_append_setts {o : Oper} {a : Act} {w : World} {K : Act → World → Prop} {Q : Exit → Act → World → Prop} (s x : Operand) (ho : o.op = .call { callee := .builtin .append, args := #[s, x], argTypes := #[27, 27] })
    (base : Nat) (v : Value) (hs : a.eval s = v) (hown : w.ownsRow base 44 3 v 0 []) (sa : Option Addr) (n c : Nat) (ss : List Sett) (hx : a.eval x = .slice sa n c) (hst : Setts w sa ss) (hn : ss.length = n) (hl : n ≤ 100) (hbase : base ≤ w.heap.size)
    (h : ∀ v' w', w'.ownsRow base 44 3 v' n (ss.flatMap settV) → w.grownBy w' v.ownBlock → K (a.put o.dst v') w') : o.wp Try.prog a w K Q := by
  obtain ⟨i0, hi9, hz0, hz1, hz2⟩ := info44p
  have hr : ∃ v' w', (Builtin.append_ #[27, 27] o.type #[v, .slice sa n c]).run Try.prog w = .ok v' w' ∧ w'.ownsRow base 44 3 v' n (ss.flatMap settV) ∧ w.grownBy w' v.ownBlock := by
    by_cases h0 : ss = []
    · subst h0
      obtain rfl : n = 0 := by rw [← hn]; rfl
      exact ⟨v, w, run_append_nothing base 27 o.type 44 i0 3 Try.underlying27 hi9 v 0 [] hown sa c, hown, .refl _ _⟩
    · rcases hst with h1 | ⟨b, ofs, h1, h2, h3⟩
      · exact absurd h1 h0
      · subst h1
        obtain ⟨v', w', r1, r2, r3, _⟩ := run_append_own (P := Try.prog) w base 27 o.type 44 i0 (.agg #[.int .i64 0, .int .i64 0, .bool false]) 3 24 Try.underlying27 hi9 hz0 hz1 hz2 rfl (by decide) v 0 [] hown ⟨b, ofs, none⟩ n c (ss.flatMap settV) (by rw [flat_len, hn]) (news_sett h3)
          (fun u hu => by
            obtain ⟨s, _, hs⟩ := List.mem_flatMap.1 hu
            simp [settV] at hs
            rcases hs with rfl | rfl | rfl <;> rfl) (by unfold maxLen; omega) (by omega) hbase
        rw [Nat.zero_add, List.nil_append] at r2
        exact ⟨v', w', r1, r2, r3⟩
  obtain ⟨v', w', r1, r2, r3⟩ := hr
  unfold Oper.wp execOp
  simp only [ho, resolve, invoke, builtin, Sem.run_bind, Sem.run_pure, Result.andThen_ok, List.map_toArray, List.map_cons, List.map_nil, hs, hx, r1]
  exact h v' w' r2 r3
/-- What such a slice looks like. -/
theorem row_setts {W : World} {base n : Nat} {v : Value} {ss : List Sett} (h : W.ownsRow base 44 3 v n (ss.flatMap settV)) (hn : ss.length = n) (hr : ∀ s ∈ ss, s.2.1 ≤ 9223372036854775807) : ∃ sa cap, v = .slice sa n cap ∧ Setts W sa ss ∧ ∀ b o, sa = some ⟨b, o, none⟩ → base ≤ b ∧ b < W.heap.size := by
  rcases h.2 with ⟨h1, h2⟩ | ⟨g, cap, cur, h1, hb, hg, _⟩
  · subst h1; subst h2
    exact ⟨none, 0, rfl, .inl (List.eq_nil_of_length_eq_zero hn), fun b o e => by cases e⟩
  · subst h1
    refine ⟨_, cap, rfl, setts_row h hn hr, fun b o e => ?_⟩
    injection e with e; injection e with e; subst e
    exact ⟨hb, (h.lt _ rfl).2⟩
end Go.Proofs.Ytmfbkgdlfackcaa
