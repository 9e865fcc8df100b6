/- Eye: what is told of a watch whose measurers, images and looks are numbered otherwise: the facts of EyeTurned. -/
import Derived.Test.YtcfjakifeihbpaaEtf
namespace Go.Proofs.Ytcfjakifeihbpaa
namespace Ey
open Go.RowKit Nb

theorem rot_twice {E a e : Nat} (h1 : 1 ≤ E) (h6 : E ≤ 6) : (e + (E - (E - a % E) % E)) % E = (e + a) % E := by
  have : E = 1 ∨ E = 2 ∨ E = 3 ∨ E = 4 ∨ E = 5 ∨ E = 6 := by omega
  rcases this with rfl | rfl | rfl | rfl | rfl | rfl <;> omega
theorem rot_nat {E a X : Nat} (hE4 : E ≤ 4) : ∃ R : Nat, rotS E a (X : Int) = (R : Int) ∧ R < 2 ^ E := by
  obtain ⟨R, e1, e2⟩ := set_nat (n := E) (by omega) (fun e => setI (X : Int) ((e + (E - a % E)) % E))
  exact ⟨R, e1, e2⟩
theorem rot_at {E a X R : Nat} (hE1 : 1 ≤ E) (hE4 : E ≤ 4) (e1 : rotS E a (X : Int) = (R : Int)) : ∀ e, e < E → setI (R : Int) ((e + a) % E) = setI (X : Int) e :=
  fun e he => by rw [← e1]; exact rot_m hE1 hE4 _ he
theorem rot_size {E a X R : Nat} (hE1 : 1 ≤ E) (hE4 : E ≤ 4) (hX : X < 2 ^ E) (e1 : rotS E a (X : Int) = (R : Int)) : popc (R : Int) = popc (X : Int) := by
  have := rot_popc (a := a) hE1 hE4 hX
  rw [e1] at this
  exact this
theorem rot_to {E a X : Nat} (hE1 : 1 ≤ E) (hE4 : E ≤ 4) (hX : X < 2 ^ E) : ∃ R : Nat, (∀ e, e < E → setI (R : Int) ((e + a) % E) = setI (X : Int) e) ∧ R < 2 ^ E ∧ popc (R : Int) = popc (X : Int) := by
  obtain ⟨R, e1, e2⟩ := rot_nat (E := E) (a := a) (X := X) hE4
  exact ⟨R, rot_at hE1 hE4 e1, e2, rot_size hE1 hE4 hX e1⟩
theorem rot_from {E a X : Nat} (hE1 : 1 ≤ E) (hE4 : E ≤ 4) (hX : X < 2 ^ E) : ∃ R : Nat, (∀ e, e < E → setI (X : Int) ((e + a) % E) = setI (R : Int) e) ∧ R < 2 ^ E ∧ popc (R : Int) = popc (X : Int) := by
  obtain ⟨R, f1, f2⟩ := rot_nat (E := E) (a := E - a % E) (X := X) hE4
  refine ⟨R, fun e he => ?_, f2, rot_size hE1 hE4 hX f1⟩
  rw [← f1]
  unfold rotS
  rw [setI_sureTo (by omega) he, rot_twice hE1 (by omega)]
theorem reply_ask (r : Option B) (k : Nat) : ∃ q1 q2 c : Int, reply (askR r k) = .tuple #[.agg #[.int .i64 q1, .int .i64 q2], .int .i64 c] := by
  unfold askR
  cases r with
  | none => exact ⟨0, 0, 10, rfl⟩
  | some b =>
    dsimp only
    cases b k with
    | none => exact ⟨0, 0, 12, rfl⟩
    | some s => exact ⟨s.1, s.2, 0, rfl⟩
/-- Two replies that are one. -/
def Same2 (r r' : Except Int Value) : Prop := ∃ q1 q2 c : Int, reply r = .tuple #[.agg #[.int .i64 q1, .int .i64 q2], .int .i64 c] ∧ reply r' = .tuple #[.agg #[.int .i64 q1, .int .i64 q2], .int .i64 c]
structure TF (h : Wd) (xs : List (Int × Int)) (ls : List LkV) (h' : Wd) (ls' : List LkV) (E I a b : Nat) (W W' D D' s s' x x' c cx : Int) : Prop where
  fw : replyI (clashA h xs ls) = .tuple #[.int .i64 W, .int .i64 0]
  fw' : replyI (clashA h' xs ls') = .tuple #[.int .i64 W', .int .i64 0]
  fd : replyI (dropA h xs ls) = .tuple #[.int .i64 D, .int .i64 0]
  fd' : replyI (dropA h' xs ls') = .tuple #[.int .i64 D', .int .i64 0]
  fs : replyI (sureA h xs ls) = .tuple #[.int .i64 s, .int .i64 c]
  fs' : replyI (sureA h' xs ls') = .tuple #[.int .i64 s', .int .i64 c]
  fx : replyI (explainA h xs ls) = .tuple #[.int .i64 x, .int .i64 cx]
  fx' : replyI (explainA h' xs ls') = .tuple #[.int .i64 x', .int .i64 cx]
  ps : popc W = popc W' ∧ popc D = popc D' ∧ popc x = popc x'
  rg : ((0 ≤ W ∧ W < 4096) ∧ (0 ≤ W' ∧ W' < 4096) ∧ (0 ≤ D ∧ D < 4096) ∧ 0 ≤ D' ∧ D' < 4096) ∧ (0 ≤ x ∧ x < 4096) ∧ (0 ≤ x' ∧ x' < 4096) ∧ (0 ≤ s ∧ s < 16) ∧ 0 ≤ s' ∧ s' < 16
  sb : ∀ m : Nat, m < E → s / 2 ^ m % 2 = s' / 2 ^ ((m + a) % E) % 2
  hb : ∀ m : Nat, m < E → Same2 (habitR h xs ls m) (habitR h' xs ls' (((m + a) % E : Nat) : Int))
  bt : ∀ m : Nat, m < E → Same2 (betweenR h xs ls 0 m) (betweenR h' xs ls' (((0 + a) % E : Nat) : Int) (((m + a) % E : Nat) : Int))
  pl : ∀ m : Nat, m < I → Same2 (placeR h xs ls m) (placeR h' xs ls' (((m + b) % I : Nat) : Int))
set_option maxRecDepth 100000 in
set_option maxHeartbeats 1000000 in
theorem turn_facts {h : Wd} {xs : List (Int × Int)} {ls : List LkV} {E I : Nat} (hv : validW h xs ls = true) (hn : ls.length = h.ln) (h7 : ls.length ≤ 7) (hE : h.eyes = (E : Int)) (hI : h.images = (I : Int)) (a b : Nat) (sa : Option Addr) (cap : Nat) :
    ∃ W W' D D' s s' x x' c cx, TF h xs ls (partH h sa ls.length cap) (turnL ls E I a b ls.length) E I a b W W' D D' s s' x x' c cx := by
  have V := validW_iff hv
  have k := wok_of hv hn hE
  have hv' := turn_valid (a := a) (b := b) hv hE hI sa ls.length cap
  have k' : WOk (partH h sa ls.length cap) ((turnL ls E I a b ls.length).map (travOf h xs)) (turnL ls E I a b ls.length) E := wok_of (h := partH h sa ls.length cap) hv' (by rw [turnL_len]; rfl) hE
  have hl12 := k.l12
  have tw : TW h ls E I := ⟨by have := V.ey; omega, by have := V.im; omega, k.ey, fun j hj => by
    have e : ls.getD j (0, 0, 0) = ls[j] := by simp [List.getD, hj]
    have := (V.lk _ (List.getElem_mem hj)).2.1
    rw [e]; omega⟩
  have hE1 := tw.e.1
  have hE4 := tw.e.2
  have hI1 := tw.i.1
  have hI6 := tw.i.2
  have hlen : (turnL ls E I a b ls.length).length = ls.length := turnL_len _ _ _ _ _ _
  have hcan : ∀ S S' H H', Rl ls.length E a S S' H H' → canW h (ls.map (travOf h xs)) ls E S H = canW (partH h sa ls.length cap) ((turnL ls E I a b ls.length).map (travOf h xs)) (turnL ls E I a b ls.length) E S' H' := fun S S' H H' r =>
    can_same k k' (fun x hx => ⟨_, tr_forth tw r sa _ cap hx⟩) (fun y hy => ⟨_, tr_back tw r sa _ cap hy⟩)
  have hall := rel_all (a := a) hl12 hE1 hE4
  have hov : ∀ base j, isBase E base → isBase E (sgm E I a b base) → (inS ls E (allS ls.length) j ↔ inS (turnL ls E I a b ls.length) E (allS ls.length) (sgm E I a b j)) → tau E I a b (sgm E I a b base) = base → tau E I a b (sgm E I a b j) = j →
      (ovB h (ls.map (travOf h xs)) ls E (allS ls.length) (allS E) base = none ∧ ovB (partH h sa ls.length cap) ((turnL ls E I a b ls.length).map (travOf h xs)) (turnL ls E I a b ls.length) E (allS ls.length) (allS E) (sgm E I a b base) = none) ∨
      ∃ p p', ovB h (ls.map (travOf h xs)) ls E (allS ls.length) (allS E) base = some p ∧ ovB (partH h sa ls.length cap) ((turnL ls E I a b ls.length).map (travOf h xs)) (turnL ls E I a b ls.length) E (allS ls.length) (allS E) (sgm E I a b base) = some p' ∧ p j = p' (sgm E I a b j) := fun base j h1 h2 h3 h4 h5 =>
    ov_same k k' h1 h2 h3 (fun x hx => ⟨_, tr_forth tw hall sa _ cap hx, by show x (tau E I a b (sgm E I a b j)) - x (tau E I a b (sgm E I a b base)) = _; rw [h4, h5]⟩) (fun y hy => ⟨_, tr_back tw hall sa _ cap hy, rfl⟩)
  have hask : ∀ base j, isBase E base → isBase E (sgm E I a b base) → (inS ls E (allS ls.length) j ↔ inS (turnL ls E I a b ls.length) E (allS ls.length) (sgm E I a b j)) → tau E I a b (sgm E I a b base) = base → tau E I a b (sgm E I a b j) = j →
      ∀ r r', r = askR (ovB h (ls.map (travOf h xs)) ls E (allS ls.length) (allS E) base) j → r' = askR (ovB (partH h sa ls.length cap) ((turnL ls E I a b ls.length).map (travOf h xs)) (turnL ls E I a b ls.length) E (allS ls.length) (allS E) (sgm E I a b base)) (sgm E I a b j) → Same2 r r' := fun base j h1 h2 h3 h4 h5 r r' hr hr' => by
    have e : r = r' := by
      rw [hr, hr']
      rcases hov base j h1 h2 h3 h4 h5 with ⟨e1, e2⟩ | ⟨p, p', e1, e2, e3⟩
      · rw [e1, e2]; rfl
      · rw [e1, e2]; unfold askR; dsimp only; rw [e3]
    obtain ⟨q1, q2, c, hq⟩ := reply_ask (ovB h (ls.map (travOf h xs)) ls E (allS ls.length) (allS E) base) j
    exact ⟨q1, q2, c, by rw [hr]; exact hq, by rw [← e, hr]; exact hq⟩
  have hbk : ∀ e, e < E → tau E I a b (sgm E I a b (1 + e)) = 1 + e := fun e he => by
    rw [sgm_eye (by omega), tau_eye (by have := Nat.mod_lt (e + a) (show 0 < E by omega); omega), rot_back hE1 (by omega) he]
  have hbi : ∀ i, i < I → tau E I a b (sgm E I a b (5 + i)) = 5 + i := fun i hi => by
    rw [sgm_im, tau_im, rot_back hI1 hI6 hi]
  have h00 : sgm E I a b 0 = 0 := rfl
  have hb1 : ∀ e, e < E → isBase E (1 + e) := fun e he => .inr ⟨e, he, rfl⟩
  have hb2 : ∀ e, e < E → isBase E (sgm E I a b (1 + e)) := fun e he => by rw [sgm_eye (by omega)]; exact .inr ⟨_, Nat.mod_lt _ (by omega), rfl⟩
  have hie : ∀ e, e < E → (inS ls E (allS ls.length) (1 + e) ↔ inS (turnL ls E I a b ls.length) E (allS ls.length) (sgm E I a b (1 + e))) := fun e he =>
    ⟨fun _ => by rw [sgm_eye (by omega)]; exact .inr (.inl ⟨_, Nat.mod_lt _ (by omega), rfl⟩), fun _ => .inr (.inl ⟨e, he, rfl⟩)⟩
  have hii : ∀ i, i < I → (inS ls E (allS ls.length) (5 + i) ↔ inS (turnL ls E I a b ls.length) E (allS ls.length) (sgm E I a b (5 + i))) := fun i hi => by
    rw [sgm_im]
    constructor
    · rintro (h0 | ⟨e, he, h0⟩ | ⟨j, hj, hs, h0⟩)
      · omega
      · omega
      · refine .inr (.inr ⟨ls.length - 1 - j, by rw [hlen]; omega, setI_allS hl12 (by omega), ?_⟩)
        rw [turnL_get _ _ _ _ _ _ _ (by omega), show ls.length - 1 - (ls.length - 1 - j) = j by omega]
        dsimp only
        rw [toNat_rot (tw.im j hj).1, show i = (ls.getD j (0, 0, 0)).2.1.toNat by omega]
    · rintro (h0 | ⟨e, he, h0⟩ | ⟨j, hj, hs, h0⟩)
      · omega
      · omega
      · rw [hlen] at hj
        refine .inr (.inr ⟨ls.length - 1 - j, by omega, setI_allS hl12 (by omega), ?_⟩)
        rw [turnL_get _ _ _ _ _ _ _ hj] at h0
        dsimp only at h0
        have hm := tw.im (ls.length - 1 - j) (by omega)
        rw [toNat_rot hm.1] at h0
        have h1 := rot_back (a := b) hI1 hI6 hi
        have h2 := rot_back (a := b) hI1 hI6 (e := (ls.getD (ls.length - 1 - j) (0, 0, 0)).2.1.toNat) (by omega)
        rw [show (i + b) % I = ((ls.getD (ls.length - 1 - j) (0, 0, 0)).2.1.toNat + b) % I by omega, h2] at h1
        omega
  have hEn : h.eyes.toNat = E := by rw [hE]; rfl
  have hoV : ∀ base, ovW h xs ls base = ovB h (ls.map (travOf h xs)) ls E (allS ls.length) (allS E) base := fun base => by unfold ovW; rw [hEn]
  have hoV' : ∀ base, ovW (partH h sa ls.length cap) xs (turnL ls E I a b ls.length) base = ovB (partH h sa ls.length cap) ((turnL ls E I a b ls.length).map (travOf h xs)) (turnL ls E I a b ls.length) E (allS ls.length) (allS E) base := fun base => by
    unfold ovW; rw [show (partH h sa ls.length cap).eyes.toNat = E from hEn, hlen]; rfl
  have hme : ∀ m : Nat, m < E → isImg h.eyes (m : Int) = true := fun m hm => img_iff.2 (by omega)
  have hmi : ∀ m : Nat, m < I → isImg h.images (m : Int) = true := fun m hm => img_iff.2 (by omega)
  have hme' : ∀ m : Nat, m < E → isImg (partH h sa ls.length cap).eyes (m : Int) = true := hme
  have hmi' : ∀ m : Nat, m < I → isImg (partH h sa ls.length cap).images (m : Int) = true := hmi
  have hlt : ∀ m : Nat, (m + a) % E < E := fun m => Nat.mod_lt _ (by omega)
  have hlt2 : ∀ m : Nat, (m + b) % I < I := fun m => Nat.mod_lt _ (by omega)
  obtain ⟨W, w1, w2, w3⟩ := clash_min hv k
  obtain ⟨W', v1, v2, v3⟩ := clash_min hv' k'
  obtain ⟨D, d1, d2, d3, d4⟩ := drop_min hv k
  obtain ⟨D', g1, g2, g3, g4⟩ := drop_min hv' k'
  obtain ⟨X, cx, x1, x2, x3⟩ := explain_min hv k
  obtain ⟨X', cx', y1, y2, y3⟩ := explain_min hv' k'
  obtain ⟨s, c, s1, s2, s3⟩ := sure_bits hv k
  obtain ⟨s', c', t1, t2, t3⟩ := sure_bits hv' k'
  rw [hlen] at v2 v3 g2 g3 g4 y3 t3
  change (canW (partH h sa ls.length cap) ((turnL ls E I a b ls.length).map (travOf h xs)) _ _ _ _ = true ∧ _ ∨ canW (partH h sa ls.length cap) ((turnL ls E I a b ls.length).map (travOf h xs)) _ _ _ _ = false ∧ canW (partH h sa ls.length cap) ((turnL ls E I a b ls.length).map (travOf h xs)) _ _ _ _ = false ∧ ∀ q : Nat, _ → canW (partH h sa ls.length cap) ((turnL ls E I a b ls.length).map (travOf h xs)) _ _ _ _ = false → _) at v3
  have hp := pow_12 hl12
  have hpE := pow_12 (n := E) (by omega)
  have hp16 : 2 ^ E ≤ 16 := (by decide : ∀ k : Fin 5, 2 ^ k.val ≤ 16) ⟨E, by omega⟩
  have hrev : ∀ S : Nat, S < 2 ^ ls.length → ∃ R : Nat, revS ls.length (S : Int) = (R : Int) ∧ R < 2 ^ ls.length ∧ popc (R : Int) = popc (S : Int) := fun S hS => by
    obtain ⟨R, e, hR⟩ := set_nat hl12 (fun j => setI (S : Int) (ls.length - 1 - j))
    exact ⟨R, e, hR, by rw [← e]; exact rev_popc h7 hS⟩
  -- the fewest that clash
  have pw : popc (W : Int) = popc (W' : Int) := by
    have hc := hcan _ _ _ _ hall
    rcases w3 with ⟨a1, a2⟩ | ⟨a1, a2, a3⟩
    · rcases v3 with ⟨b1, b2⟩ | ⟨b1, _, _⟩
      · rw [a2, b2]
      · rw [hc, b1] at a1; cases a1
    · rcases v3 with ⟨b1, _⟩ | ⟨b1, b2, b3⟩
      · rw [hc, b1] at a1; cases a1
      · obtain ⟨R, e1, e2, e3⟩ := hrev W w2
        obtain ⟨R', f1, f2, f3⟩ := hrev W' v2
        have q1 := b3 R e2 (by rw [← hcan W R (allS E) (allS E) ⟨fun j hj => by rw [← e1]; exact rev_s hl12 _ hj, hall.m⟩]; exact a2)
        have q2 := a3 R' f2 (by rw [hcan R' W' (allS E) (allS E) ⟨fun j hj => by rw [← f1]; exact rev_s' hl12 _ hj, hall.m⟩]; exact b2)
        omega
  have pd : popc (D : Int) = popc (D' : Int) := by
    obtain ⟨R, e1, e2, e3⟩ := hrev D d2
    obtain ⟨R', f1, f2, f3⟩ := hrev D' g2
    have q1 := g4 R e2 (by
      have := hcan (allS ls.length - (D : Int)) (allS ls.length - (R : Int)) (allS E) (allS E) ⟨fun j hj => by rw [set_not h7 e2 (by omega), set_not h7 d2 hj, ← e1, rev_s hl12 _ hj], hall.m⟩
      exact this.symm.trans d3)
    have q2 := d4 R' f2 (by
      have := hcan (allS ls.length - (R' : Int)) (allS ls.length - (D' : Int)) (allS E) (allS E) ⟨fun j hj => by rw [set_not h7 g2 (by omega), set_not h7 f2 hj, ← f1, rev_s' hl12 _ hj], hall.m⟩
      exact this.trans g3)
    omega
  have px : popc (X : Int) = popc (X' : Int) ∧ cx = cx' := by
    have hc := hcan _ _ _ _ hall
    rcases x3 with ⟨a1, a2, a3⟩ | ⟨a1, a2, a3, a4⟩
    · rcases y3 with ⟨b1, b2, b3⟩ | ⟨b1, b2, b3, b4⟩
      · rw [a2, a3, b2, b3]; exact ⟨rfl, rfl⟩
      · exact absurd (hc.trans b1) (by rw [a1]; decide)
    · rcases y3 with ⟨b1, b2, b3⟩ | ⟨b1, b2, b3, b4⟩
      · exact absurd (hc.trans b1) (by rw [a1]; decide)
      · refine ⟨?_, by rw [a2, b2]⟩
        obtain ⟨R, e1, e2, e3⟩ := rot_to (a := a) hE1 hE4 x2
        obtain ⟨R', f1, f2, f3⟩ := rot_from (a := a) hE1 hE4 y2
        have q1 := b4 R e2 (by
          have := hcan (allS ls.length) (allS ls.length) (X : Int) (R : Int) ⟨hall.s, e1⟩
          exact this.symm.trans a3)
        have q2 := a4 R' f2 (by
          have := hcan (allS ls.length) (allS ls.length) (R' : Int) (X' : Int) ⟨hall.s, f1⟩
          exact this.trans b3)
        omega
  have psu : c = c' ∧ ∀ m : Nat, m < E → s / 2 ^ m % 2 = s' / 2 ^ ((m + a) % E) % 2 := by
    have hq : ∀ m, m < E → _ := fun m hm => hov 0 (1 + m) (.inl rfl) (.inl rfl) (hie m hm) rfl (hbk m hm)
    rcases s3 with ⟨a1, a2, a3⟩ | ⟨p, a1, a2, a3⟩
    · rcases t3 with ⟨b1, b2, b3⟩ | ⟨p', b1, b2, b3⟩
      · exact ⟨by rw [a3, b3], fun m hm => by rw [a2, b2]; simp⟩
      · rcases hq 0 (by omega) with ⟨e1, e2⟩ | ⟨p2, p3, e1, e2, e3⟩
        · rw [h00] at e2
          have := e2.symm.trans b1
          cases this
        · rw [a1] at e1; cases e1
    · rcases t3 with ⟨b1, b2, b3⟩ | ⟨p', b1, b2, b3⟩
      · rcases hq 0 (by omega) with ⟨e1, e2⟩ | ⟨p2, p3, e1, e2, e3⟩
        · rw [a1] at e1; cases e1
        · rw [h00] at e2
          have := e2.symm.trans b1
          cases this
      · refine ⟨by rw [a2, b2], fun m hm => ?_⟩
        rcases hq m hm with ⟨e1, e2⟩ | ⟨p2, p3, e1, e2, e3⟩
        · rw [a1] at e1; cases e1
        · rw [h00] at e2
          have q1 : p2 = p := by rw [a1] at e1; injection e1 with e1; exact e1.symm
          have q2 : p3 = p' := by have := e2.symm.trans b1; injection this
          rw [q1, q2, sgm_eye (by omega)] at e3
          rw [a3 m hm, b3 _ (hlt m)]
          unfold sureP
          rw [e3]
  refine ⟨W, W', D, D', s, s', X, X', c, cx, w1, v1, d1, g1, s1, by rw [psu.1]; exact t1, x1, by rw [px.2]; exact y1, ⟨pw, pd, px.1⟩, ⟨⟨by omega, by omega, by omega, by omega, by omega⟩, by omega, by omega, s2, t2⟩, psu.2, fun m hm => ?_, fun m hm => ?_, fun m hm => ?_⟩
  · refine hask 0 (1 + m) (.inl rfl) (.inl rfl) (hie m hm) rfl (hbk m hm) _ _ ?_ ?_
    · unfold habitR; rw [hv, hme m hm, hoV]; rfl
    · unfold habitR; rw [hv', hme' _ (hlt m), hoV', h00, sgm_eye (by omega)]; rfl
  · refine hask (1 + 0) (1 + m) (hb1 0 (by omega)) (hb2 0 (by omega)) (hie m hm) (hbk 0 (by omega)) (hbk m hm) _ _ ?_ ?_
    · unfold betweenR; rw [hv, show isImg h.eyes 0 = true from hme 0 (by omega), hme m hm]; simp only [if_true]; rw [hoV]; rfl
    · unfold betweenR; rw [hv', hme' _ (hlt 0), hme' _ (hlt m)]; simp only [if_true]; rw [hoV', sgm_eye (by omega), sgm_eye (by omega)]; rfl
  · refine hask 0 (5 + m) (.inl rfl) (.inl rfl) (hii m hm) rfl (hbi m hm) _ _ ?_ ?_
    · unfold placeR; rw [hv, hmi m hm, hoV]; rfl
    · unfold placeR; rw [hv', hmi' _ (hlt2 m), hoV', h00, sgm_im]; rfl
end Ey
end Go.Proofs.Ytcfjakifeihbpaa
