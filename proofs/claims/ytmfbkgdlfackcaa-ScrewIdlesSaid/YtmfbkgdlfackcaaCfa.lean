/- ScrewClash: all that its walk asks. -/
import Derived.Test.YtmfbkgdlfackcaaCmf
namespace Go.Proofs.Ytmfbkgdlfackcaa
open Fw Go.RowKit

structure CF (h : Hd) (xs : List (Int × Int)) (ss : List Sett) (y rc es s1 s2 q : Int) (al o : Nat) (ca b1 b2 : Bool) : Prop where
  cl : replyI (clashA h xs ss) = .tuple #[.int .i64 rc, .int .i64 0]
  dr : replyI (dropA h xs ss) = .tuple #[.int .i64 q, .int .i64 0]
  su : reply (sumA h xs ss) = .tuple #[.agg #[.int .i64 s1, .int .i64 s2], .int .i64 es]
  sh : wrap64 (wrap64 (2 ^ h.ns) - 1) = (al : Int)
  al1 : al ≤ 4095
  q0 : 0 ≤ q
  q1 : q ≤ al
  o1 : o ≤ al
  own : bits .and .i64 y (al : Int) = (o : Int)
  bd : bits .andNot .i64 (al : Int) q = (al : Int) - q
  bo : bits .andNot .i64 (al : Int) (o : Int) = (al : Int) - o
  cd : canB h xs ss ((al : Int) - q) = true
  co : canB h xs ss ((al : Int) - o) = b1
  cw : canB h xs ss (o : Int) = b2
  best : b1 = true → popc q < popc (o : Int) ∨ (popc q = popc (o : Int) ∧ q ≤ o)
  zero : q = 0 ↔ ca = true
  err : es = if ca then 0 else 10
  fa : ca = true → rc = 0 ∧ b2 = true
  fb : ca = false → ∃ c : Nat, rc = c ∧ 1 ≤ c ∧ c ≤ al ∧ canB h xs ss c = false ∧ (2 ≤ popc (c : Int) ∧ popc (c : Int) ≤ 4) ∧ bits .and .i64 (c : Int) q ≠ 0 ∧
      (∀ i, i < h.ns → hasB (c : Int) i = true → ∃ z : Nat, bits .andNot .i64 (c : Int) (wrap64 (2 ^ i)) = (z : Int) ∧ z < 4096 ∧ canB h xs ss z = true) ∧ (b2 = false → popc (c : Int) < popc (o : Int) ∨ (popc (c : Int) = popc (o : Int) ∧ c ≤ o))
theorem cf_bd {n al q : Nat} (hn : n ≤ 12) (hP : (2 : Int) ^ n - 1 = (al : Int)) (hq : q < 2 ^ n) : bits .andNot .i64 (al : Int) (q : Int) = (al : Int) - q := by
  have := butS_eq (n := n) (x := q) hn hq
  unfold butS at this
  rw [hP] at this; exact this
theorem cf_sh {n al : Nat} (hn : n ≤ 12) (hP : (2 : Int) ^ n - 1 = (al : Int)) : wrap64 (wrap64 (2 ^ n) - 1) = (al : Int) := by
  rw [← hP]
  have h := (by decide +kernel : ∀ k : Fin 13, wrap64 (wrap64 (2 ^ k.val) - 1) = 2 ^ k.val - 1) ⟨n, Nat.lt_succ_of_le hn⟩
  exact h
theorem cf_su {h : Hd} {xs : List (Int × Int)} {ss : List Sett} (hv : validH h xs ss = true) : ∃ s1 s2 : Int, reply (sumA h xs ss) = .tuple #[.agg #[.int .i64 s1, .int .i64 s2], .int .i64 (if canB h xs ss (allS ss) then 0 else 10)] := by
  unfold sumA sumR
  rw [if_pos hv, truths_can hv]
  cases canB h xs ss (allS ss)
  · exact ⟨0, 0, rfl⟩
  · exact ⟨_, _, rfl⟩
theorem clash_facts {h : Hd} {xs : List (Int × Int)} {ss : List Sett} (hv : validH h xs ss = true) (hnS : ss.length = h.ns) {y : Int} (hy : 0 ≤ y ∧ y ≤ 65535) :
    ∃ rc es s1 s2 q al o ca b1 b2, CF h xs ss y rc es s1 s2 q al o ca b1 b2 := by
  obtain ⟨va, vb, vc, vd, ve, vf, vg⟩ := valid_has hv
  obtain ⟨p1, p2, p3⟩ := pow_12 vf
  obtain ⟨q, d1, d2, d3, d5⟩ := drop_best hv
  obtain ⟨o, o1, o2⟩ := own_rng hy (n := ss.length) vf
  obtain ⟨s1, s2, hs⟩ := cf_su hv
  have hdz := drop_zero_iff hv
  obtain ⟨al, hal⟩ : ∃ al : Nat, 2 ^ ss.length - 1 = al := ⟨_, rfl⟩
  have hP : (2 : Int) ^ ss.length - 1 = (al : Int) := by omega
  have hall : allS ss = (al : Int) := hP
  have hbd := cf_bd vf hP d2
  have hbo := cf_bd vf hP o2
  have hFB : canB h xs ss (allS ss) = false → _ := clash_best hv
  have hcl : replyI (clashA h xs ss) = .tuple #[.int .i64 (clashR h xs ss), .int .i64 0] := by unfold clashA; rw [if_pos hv]; rfl
  have hdr : replyI (dropA h xs ss) = .tuple #[.int .i64 (q : Int), .int .i64 0] := by unfold dropA; rw [if_pos hv, d1]; rfl
  rw [hall] at hs hdz hFB
  rw [d1] at hdz
  have hsh := Lib.hid (cf_sh vf hP)
  rw [hnS] at hsh
  rw [hP] at d3 d5 o1
  refine ⟨clashR h xs ss, _, s1, s2, (q : Int), al, o, _, _, _, hcl, hdr, hs, hsh.out, by omega, by omega, by omega, by omega, o1, hbd, hbo, d3, rfl, rfl, fun hb => by rcases d5 o o2 hb with h | ⟨h, h2⟩; exact .inl h; exact .inr ⟨h, by omega⟩, ?_, rfl, fun hc => ?_, fun hc => ?_⟩
  · exact hdz
  · exact ⟨clash_zero hv (by rw [hall]; exact hc), can_sub hv (by rw [hall]; exact hc) o⟩
  · obtain ⟨c, c1, c2, c3, c4, c5⟩ := hFB hc
    refine ⟨c, c1, c2, by omega, c4, clash_size hv c3 c4 c5, clash_drop hv c3 d2 c4 (by rw [hP]; exact d3), fun i hi hb => clash_less hv c3 c5 (by omega) hb, fun hb => c5 o o2 hb⟩
end Go.Proofs.Ytmfbkgdlfackcaa
