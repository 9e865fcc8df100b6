/- Plate: the fewest stars that are as asked. -/
import Derived.Test.YtdkegkacpdkjgaaGreatPke
import Derived.Test.YtdkegkacpdkjgaaGreatPon
import Derived.Test.YtdkegkacpdkjgaaGreatSeq
namespace Go.Proofs.YtdkegkacpdkjgaaGreat
open Go.RowKit

/-- The first set, below a number, that is as asked, if so many stars more are taken. -/
def tryS (ask : Int → Bool) (all : Int) : Nat → Int → Nat → Option Int
  | 0, t, m => if m = 0 then (if ask t then some t else none) else none
  | b + 1, t, m => if m = 0 then (if ask t then some t else none) else if b + 1 < m then none else
    match tryS ask all b t m with
    | some x => some x
    | none => if setI all b then tryS ask all b (bits .or .i64 t (wrap64 (2 ^ b))) (m - 1) else none
def TryOut (r : Option Int) (Bf : Nat) (w : World) (e : Ending) (w' : World) : Prop :=
  (e = .returned (.bool r.isSome) ∧ w.grownBy w' (some Bf)) ∧ w'.frozen? ⟨Bf, 0, none⟩ = false ∧ ∃ v : Int, w'.cell? ⟨Bf, 0, none⟩ = some (.int .i64 v) ∧ ∀ x, r = some x → v = x
/-- What the closure has captured. -/
structure Env (w0 w : World) (Bs Ba Bf Bt F : Nat) (caps : Array Value) (all : Int) : Prop where
  bs : w.cell? ⟨Bs, 0, none⟩ = some (.int .i64 all)
  ba : w.cell? ⟨Ba, 0, none⟩ = some (.func (.func F) #[] caps)
  bt : w.cell? ⟨Bt, 0, none⟩ = some (.func (.func 119) #[] #[.pointer (some ⟨Bf, 0, none⟩), .pointer (some ⟨Ba, 0, none⟩), .pointer (some ⟨Bt, 0, none⟩), .pointer (some ⟨Bs, 0, none⟩)])
  bf : ∃ v : Int, w.cell? ⟨Bf, 0, none⟩ = some (.int .i64 v)
  ff : w.frozen? ⟨Bf, 0, none⟩ = false
  up : Below Bf w0 w
  n1 : Bs ≠ Bf
  n2 : Ba ≠ Bf
  n3 : Bt ≠ Bf
theorem cellG {w w' : World} {row : Option Nat} {B : Nat} {v : Value} (h : w.cell? ⟨B, 0, none⟩ = some v) (hg : w.grownBy w' row) (hr : some B ≠ row) : w'.cell? ⟨B, 0, none⟩ = some v := by
  rw [World.cell?_of_block (a := ⟨B, 0, none⟩) (show w'.heap[B]? = w.heap[B]? from hg.block B (World.block_lt_of_cell? _ _ h) hr)]; exact h
theorem Env.lt {w0 w : World} {Bs Ba Bf Bt F : Nat} {caps : Array Value} {all : Int} (h : Env w0 w Bs Ba Bf Bt F caps all) : Bf < w.heap.size := by
  obtain ⟨v, hv⟩ := h.bf; exact World.block_lt_of_cell? _ _ hv
theorem Env.step {w0 w w' : World} {Bs Ba Bf Bt F : Nat} {caps : Array Value} {all : Int} (h : Env w0 w Bs Ba Bf Bt F caps all) (hg : w.grownBy w' (some Bf)) (hf : w'.frozen? ⟨Bf, 0, none⟩ = false) (hv : ∃ v : Int, w'.cell? ⟨Bf, 0, none⟩ = some (.int .i64 v)) : Env w0 w' Bs Ba Bf Bt F caps all :=
  ⟨cellG h.bs hg (fun e => h.n1 (by injection e)), cellG h.ba hg (fun e => h.n2 (by injection e)), cellG h.bt hg (fun e => h.n3 (by injection e)), hv, hf, h.up.grown hg (by have := h.lt; omega) (fun k e => by cases e; exact Nat.le_refl _), h.n1, h.n2, h.n3⟩
theorem Env.grown {w0 w w' : World} {Bs Ba Bf Bt F : Nat} {caps : Array Value} {all : Int} (h : Env w0 w Bs Ba Bf Bt F caps all) (hb : Below w.heap.size w w') : Env w0 w' Bs Ba Bf Bt F caps all := by
  obtain ⟨v, hv⟩ := h.bf
  exact h.step (gB hb _) (frozenB hv h.ff hb) ⟨v, cellB hv hb⟩

set_option maxRecDepth 100000 in
set_option maxHeartbeats 4000000 in
theorem try_any (ask : Int → Bool) (all : Int) (w0 : World) (Bs Ba Bf Bt F : Nat) (caps : Array Value)
    (hcall : ∀ args (w : World), (callFunc F args).run Tryz.prog w = .ok (.enter F args) w)
    (hask : ∀ t Y, Below Bf w0 Y → Calls Tryz.prog F (#[.int .i64 t] ++ caps) Y (Ret (.bool (ask t)) Y)) :
    ∀ (b : Nat) (t : Int) (m : Nat) (w : World), b ≤ 12 → m ≤ 100 → Env w0 w Bs Ba Bf Bt F caps all →
      Calls Tryz.prog 119 #[.int .i64 t, .int .i64 b, .int .i64 m, .pointer (some ⟨Bf, 0, none⟩), .pointer (some ⟨Ba, 0, none⟩), .pointer (some ⟨Bt, 0, none⟩), .pointer (some ⟨Bs, 0, none⟩)] w (TryOut (tryS ask all b t m) Bf w) := by
  have HA := Lib.hid hask; clear hask
  have zero : ∀ (b : Nat) (t : Int) (w : World), b ≤ 12 → Env w0 w Bs Ba Bf Bt F caps all →
      Calls Tryz.prog 119 #[.int .i64 t, .int .i64 b, .int .i64 (0 : Nat), .pointer (some ⟨Bf, 0, none⟩), .pointer (some ⟨Ba, 0, none⟩), .pointer (some ⟨Bt, 0, none⟩), .pointer (some ⟨Bs, 0, none⟩)] w (TryOut (if ask t then some t else none) Bf w) := by
    intro b t w _ hE
    obtain ⟨R, hR⟩ : ∃ R, (if ask t then some t else none) = R := ⟨_, rfl⟩
    rw [hR]
    have HR := Lib.hid hR
    clear hR
    obtain ⟨q, hq⟩ : ∃ q, ask t = q := ⟨_, rfl⟩
    rw [hq] at HR
    have HQ := Lib.hid hq
    clear hq
    obtain ⟨v, hv⟩ := hE.bf
    have hff := hE.ff
    have hE1 : Env w0 (w.setCell ⟨Bf, 0, none⟩ (.int .i64 t)) Bs Ba Bf Bt F caps all := hE.step (gC w Bf 0 _) (by rw [World.frozen?_setCell]; exact hff) ⟨t, World.cell?_setCell_same _ _ _ hv⟩
    have hba := hE1.ba
    have hup := hE1.up
    have HG : Hid (w.grownBy (w.setCell ⟨Bf, 0, none⟩ (.int .i64 t)) (some Bf)) := gC w Bf 0 _
    have hct : Hid ((w.setCell ⟨Bf, 0, none⟩ (.int .i64 t)).cell? ⟨Bf, 0, none⟩ = some (.int .i64 t)) := World.cell?_setCell_same _ _ _ hv
    have hft := Lib.hid hE1.ff
    clear hE1 hE
    go_enter Tryz.func119, Tryz.ntmps119
    go_wp2_with fail
    generalize w.setCell ⟨Bf, 0, none⟩ (.int .i64 t) = W at *
    have ha2 := HA.out t W hup
    rw [HQ.out] at ha2
    refine ha2.mono ?_
    rintro e X ⟨rfl, hX⟩
    have hfin : TryOut R Bf w (.returned (.bool q)) X :=
      ⟨⟨by rw [← HR.out]; cases q <;> rfl, gT HG.out (gB hX _)⟩, frozenB hct.out hft.out hX, t, cellB hct.out hX, fun x hx => by rw [← HR.out] at hx; cases q <;> simp at hx; exact hx⟩
    clear hX hba hup hff hv ha2
    go_wp2_with fail
    go_ret
    exact hfin
  intro b
  induction b with
  | zero =>
    intro t m w hb hm hE
    cases m with
    | zero => exact zero 0 t w hb hE
    | succ m =>
      obtain ⟨v, hv⟩ := hE.bf
      have hff := hE.ff
      have hm0 : (0 : Int) < ((m + 1 : Nat) : Int) := by omega
      have hfin : TryOut none Bf w (.returned (.bool false)) w := ⟨⟨rfl, gB (Below.refl _ _) _⟩, hff, v, hv, fun x hx => by cases hx⟩
      have hr : tryS ask all 0 t (m + 1) = none := rfl
      rw [hr]
      generalize ((m + 1 : Nat) : Int) = M at *
      clear hE hv hff
      have hM : ((M : Int) == 0) = false := by simp; omega
      go_enter Tryz.func119, Tryz.ntmps119
      go_wp2_with fail
      go_ret
      exact hfin
  | succ b ih =>
    intro t m w hb hm hE
    cases m with
    | zero => exact zero (b + 1) t w hb hE
    | succ m =>
      obtain ⟨R, hR⟩ : ∃ R, tryS ask all (b + 1) t (m + 1) = R := ⟨_, rfl⟩
      rw [hR]
      have HR := Lib.hid hR
      clear hR
      obtain ⟨v, hv⟩ := hE.bf
      have hff := hE.ff
      have hm0 : (0 : Int) < ((m + 1 : Nat) : Int) := by omega
      have hM : ((((m + 1 : Nat) : Int)) == 0) = false := by simp; omega
      have hb0 : (0 : Int) ≤ (b : Int) := by omega
      have hb1 : (b : Int) ≤ 12 := by omega
      by_cases hlt : b + 1 < m + 1
      · have hfin : TryOut none Bf w (.returned (.bool false)) w := ⟨⟨rfl, gB (Below.refl _ _) _⟩, hff, v, hv, fun x hx => by cases hx⟩
        have hr : Hid (R = none) := by show _ = _; rw [← HR.out, tryS, if_neg (by omega), if_pos hlt]
        rw [hr.out]
        have hd : decide (((b + 1 : Nat) : Int) < ((m + 1 : Nat) : Int)) = true := by simp; omega
        clear HR hr hE ih hv hff zero
        go_enter Tryz.func119, Tryz.ntmps119
        go_wp2_with fail
        go_ret
        exact hfin
      · have hd : decide (((b + 1 : Nat) : Int) < ((m + 1 : Nat) : Int)) = false := by simp; omega
        have hbs := hE.bs
        have hbt := hE.bt
        clear zero
        go_enter Tryz.func119, Tryz.ntmps119
        go_wp2_with fail
        have hS : Hid (∀ X, Env w0 X Bs Ba Bf Bt F caps all → X.cell? ⟨Bs, 0, none⟩ = some (.int .i64 all) ∧ X.cell? ⟨Bt, 0, none⟩ = some (.func (.func 119) #[] #[.pointer (some ⟨Bf, 0, none⟩), .pointer (some ⟨Ba, 0, none⟩), .pointer (some ⟨Bt, 0, none⟩), .pointer (some ⟨Bs, 0, none⟩)])) := fun X hX => ⟨hX.bs, hX.bt⟩
        have hED := hE.grown (Below.drew (Below.refl _ w))
        refine wp_region_seq [(0, true), (1, true), (2, true), (3, true), (4, false), (5, true), (6, true), (7, true), (8, false), (9, true), (10, true), (11, true), (12, true), (13, true), (14, true), (15, true), (16, true), (17, true), (18, false), (19, true), (20, true), (21, true)] (fun X => X.cell? ⟨Bs, 0, none⟩ = some (.int .i64 all) ∧ X.cell? ⟨Bt, 0, none⟩ = some (.func (.func 119) #[] #[.pointer (some ⟨Bf, 0, none⟩), .pointer (some ⟨Ba, 0, none⟩), .pointer (some ⟨Bt, 0, none⟩), .pointer (some ⟨Bs, 0, none⟩)])) (by kernel_rfl) (by kernel_rfl) (fun _ _ d _ _ h => by cases d <;> exact h) (hS.out _ hED) ?_
        repeat (first | (refine seq_read rfl (by rfl) _ (fun w' hS => by (try dsimp only at hS); go_simp; (try with_reducible rfl)) ?_; (try simp only [Act.put, List.setIfInBounds_toArray, List.set_cons_zero, List.set_cons_succ])) | (refine seq_skip rfl (by rfl) ?_; (try simp only [Act.put, List.setIfInBounds_toArray, List.set_cons_zero, List.set_cons_succ])))
        refine seq_do rfl (by rfl) (fun K hK => ?_)
        go_simp
        refine (ih t (m + 1) w.drew (by omega) hm hED).mono ?_
        rintro e w1 ⟨⟨rfl, hg1⟩, hf1, v1, hv1, hx1⟩
        have hE1 := hED.step hg1 hf1 ⟨v1, hv1⟩
        have hG1 : w.grownBy w1 (some Bf) := gT (gB (Below.drew (Below.refl _ w)) _) hg1
        refine hK _ _ (hS.out _ hE1) ?_
        clear hK K
        (try simp only [Act.put, List.setIfInBounds_toArray, List.set_cons_zero, List.set_cons_succ])
        have HRR : Hid (R = if b + 1 < m + 1 then none else match tryS ask all b t (m + 1) with
            | some x => some x
            | none => if setI all b then tryS ask all b (bits .or .i64 t (wrap64 (2 ^ b))) m else none) := by
          show _ = _; rw [← HR.out, tryS, if_neg (by omega)]; rfl
        clear HR
        cases hr1 : tryS ask all b t (m + 1) with
        | some x =>
          have hR : Hid (R = some x) := by show _ = _; rw [HRR.out, if_neg hlt, hr1]
          have hfin : TryOut (some x) Bf w (.returned (.bool true)) w1 := ⟨⟨rfl, hG1⟩, hf1, v1, hv1, fun y hy => (hx1 y (by rw [hr1]; exact hy))⟩
          clear HRR hr1 hx1 hG1 hg1 hE1
          dsimp only [Option.isSome]
          repeat (first | (refine seq_read rfl (by rfl) _ (fun w' hS => by (try dsimp only at hS); go_simp; (try with_reducible rfl)) ?_; (try simp only [Act.put, List.setIfInBounds_toArray, List.set_cons_zero, List.set_cons_succ])) | (refine seq_skip rfl (by rfl) ?_; (try simp only [Act.put, List.setIfInBounds_toArray, List.set_cons_zero, List.set_cons_succ])))
          apply seq_end
          first | show Exit.inBlock _ _ Exit.normal _ _ | show Exit.then _ _ Exit.normal _ _ | skip
          go_wp2_with fail
          go_ret
          rw [hR.out]
          exact hfin
        | none =>
          have hR : Hid (R = if setI all b then tryS ask all b (bits .or .i64 t (wrap64 (2 ^ b))) m else none) := by show _ = _; rw [HRR.out, if_neg hlt, hr1]
          clear HRR hr1 hx1 hg1
          dsimp only [Option.isSome]
          repeat (first | (refine seq_read rfl (by rfl) _ (fun w' hS => by (try dsimp only at hS); go_simp; (try with_reducible rfl)) ?_; (try simp only [Act.put, List.setIfInBounds_toArray, List.set_cons_zero, List.set_cons_succ])) | (refine seq_skip rfl (by rfl) ?_; (try simp only [Act.put, List.setIfInBounds_toArray, List.set_cons_zero, List.set_cons_succ])))
          refine seq_do rfl (by rfl) (fun K hK => ?_)
          go_simp
          refine (has_set all b w1 (by omega)).mono ?_
          rintro e w2 ⟨rfl, hb2⟩
          have hE2 := hE1.grown hb2
          have hG2 := gT hG1 (gB hb2 _)
          refine hK _ _ (hS.out _ hE2) ?_
          clear hK K hG1 hb2
          (try simp only [Act.put, List.setIfInBounds_toArray, List.set_cons_zero, List.set_cons_succ])
          cases hs : setI all b
          · rw [hs] at hR
            have hR2 : Hid (R = none) := hR.out
            obtain ⟨v2, hv2⟩ := hE2.bf
            have hfin : TryOut none Bf w (.returned (.bool false)) w2 := ⟨⟨rfl, hG2⟩, hE2.ff, v2, hv2, fun y hy => by cases hy⟩
            clear hR hs hE1
            repeat (first | (refine seq_read rfl (by rfl) _ (fun w' hS => by (try dsimp only at hS); go_simp; (try with_reducible rfl)) ?_; (try simp only [Act.put, List.setIfInBounds_toArray, List.set_cons_zero, List.set_cons_succ])) | (refine seq_skip rfl (by rfl) ?_; (try simp only [Act.put, List.setIfInBounds_toArray, List.set_cons_zero, List.set_cons_succ])))
            apply seq_end
            first | show Exit.inBlock _ _ Exit.normal _ _ | show Exit.then _ _ Exit.normal _ _ | skip
            go_wp2_with fail
            go_ret
            rw [hR2.out]
            exact hfin
          · rw [hs] at hR
            have hR2 : Hid (R = tryS ask all b (bits .or .i64 t (wrap64 (2 ^ b))) m) := hR.out
            clear hR hs hE1
            repeat (first | (refine seq_read rfl (by rfl) _ (fun w' hS => by (try dsimp only at hS); go_simp; (try with_reducible rfl)) ?_; (try simp only [Act.put, List.setIfInBounds_toArray, List.set_cons_zero, List.set_cons_succ])) | (refine seq_skip rfl (by rfl) ?_; (try simp only [Act.put, List.setIfInBounds_toArray, List.set_cons_zero, List.set_cons_succ])))
            refine seq_do rfl (by rfl) (fun K hK => ?_)
            go_simp
            have hwm : Hid (IntKind.i64.wrap (m : Int) = (m : Int)) := IntWalk.i64_in _ (by omega)
            have hwb : Hid (IntKind.i64.wrap (2 ^ b) = wrap64 (2 ^ b)) := (by decide +kernel : ∀ k : Fin 13, IntKind.i64.wrap (2 ^ k.val) = wrap64 (2 ^ k.val)) ⟨b, by omega⟩
            rw [hwm.out, hwb.out]
            refine (ih (bits .or .i64 t (wrap64 (2 ^ b))) m w2 (by omega) (by omega) hE2).mono ?_
            rintro e w3 ⟨⟨rfl, hg3⟩, hf3, v3, hv3, hx3⟩
            have hE3 := hE2.step hg3 hf3 ⟨v3, hv3⟩
            have hG3 := gT hG2 hg3
            refine hK _ _ (hS.out _ hE3) ?_
            clear hK K
            (try simp only [Act.put, List.setIfInBounds_toArray, List.set_cons_zero, List.set_cons_succ])
            have hfin : TryOut (tryS ask all b (bits .or .i64 t (wrap64 (2 ^ b))) m) Bf w (.returned (.bool (tryS ask all b (bits .or .i64 t (wrap64 (2 ^ b))) m).isSome)) w3 := ⟨⟨rfl, hG3⟩, hf3, v3, hv3, hx3⟩
            clear hx3 hG3 hg3 hG2 hE2 hE3
            generalize (tryS ask all b (bits .or .i64 t (wrap64 (2 ^ b))) m) = R' at *
            generalize R'.isSome = q at *
            repeat (first | (refine seq_read rfl (by rfl) _ (fun w' hS => by (try dsimp only at hS); go_simp; (try with_reducible rfl)) ?_; (try simp only [Act.put, List.setIfInBounds_toArray, List.set_cons_zero, List.set_cons_succ])) | (refine seq_skip rfl (by rfl) ?_; (try simp only [Act.put, List.setIfInBounds_toArray, List.set_cons_zero, List.set_cons_succ])))
            apply seq_end
            first | show Exit.inBlock _ _ Exit.normal _ _ | show Exit.then _ _ Exit.normal _ _ | skip
            go_wp2_with fail
            go_ret
            rw [hR2.out]
            exact hfin
theorem store_fnF {P : Program} {w : World} (a : Addr) (fn : Fn) (f c : Array Value) (m : Mode) : (store a (.func fn f c) m).run P w = stored P w a (.func fn f c) m := run_store P w a _ m rfl
theorem popc_rng (x : Int) : 0 ≤ popc x ∧ popc x ≤ 12 := by
  have h : ∀ k : Nat, 0 ≤ x / 2 ^ k % 2 ∧ x / 2 ^ k % 2 ≤ 1 := fun k => by omega
  have h0 := h 0; have h1 := h 1; have h2 := h 2; have h3 := h 3; have h4 := h 4; have h5 := h 5; have h6 := h 6; have h7 := h 7; have h8 := h 8; have h9 := h 9; have h10 := h 10; have h11 := h 11
  have e : popc x = x / 2 ^ 0 % 2 + x / 2 ^ 1 % 2 + x / 2 ^ 2 % 2 + x / 2 ^ 3 % 2 + x / 2 ^ 4 % 2 + x / 2 ^ 5 % 2 + x / 2 ^ 6 % 2 + x / 2 ^ 7 % 2 + x / 2 ^ 8 % 2 + x / 2 ^ 9 % 2 + x / 2 ^ 10 % 2 + x / 2 ^ 11 % 2 := by
    show (0 : Int) + x / 2 ^ 0 % 2 + x / 2 ^ 1 % 2 + x / 2 ^ 2 % 2 + x / 2 ^ 3 % 2 + x / 2 ^ 4 % 2 + x / 2 ^ 5 % 2 + x / 2 ^ 6 % 2 + x / 2 ^ 7 % 2 + x / 2 ^ 8 % 2 + x / 2 ^ 9 % 2 + x / 2 ^ 10 % 2 + x / 2 ^ 11 % 2 = _
    rw [Int.zero_add]
  rw [e]
  generalize x / 2 ^ 0 % 2 = a0 at *; generalize x / 2 ^ 1 % 2 = a1 at *; generalize x / 2 ^ 2 % 2 = a2 at *; generalize x / 2 ^ 3 % 2 = a3 at *; generalize x / 2 ^ 4 % 2 = a4 at *; generalize x / 2 ^ 5 % 2 = a5 at *
  generalize x / 2 ^ 6 % 2 = a6 at *; generalize x / 2 ^ 7 % 2 = a7 at *; generalize x / 2 ^ 8 % 2 = a8 at *; generalize x / 2 ^ 9 % 2 = a9 at *; generalize x / 2 ^ 10 % 2 = a10 at *; generalize x / 2 ^ 11 % 2 = a11 at *
  clear e h
  omega
/-- The first set of fewer than n stars that is as asked. -/
def fewTo (ask : Int → Bool) (all : Int) : Nat → Option Int
  | 0 => none
  | n + 1 => match fewTo ask all n with
    | some x => some x
    | none => tryS ask all 10 0 n
theorem fewTo_keep {ask : Int → Bool} {all x : Int} {n : Nat} (h : fewTo ask all n = some x) : ∀ {m : Nat}, n ≤ m → fewTo ask all m = some x
  | 0, hm => by obtain rfl : n = 0 := by omega
                exact h
  | m + 1, hm => by
    rcases Nat.lt_or_ge m n with h' | h'
    · obtain rfl : n = m + 1 := by omega
      exact h
    · rw [fewTo, fewTo_keep h h']
def fewS (ask : Int → Bool) (all : Int) : Int := (fewTo ask all (popc all + 1).toNat).getD 0
set_option maxRecDepth 100000 in
set_option maxHeartbeats 4000000 in
theorem fewest_any (ask : Int → Bool) (all : Int) (F : Nat) (caps : Array Value) (w : World) (h0 : 0 ≤ all) (h1 : all < 4096)
    (hcall : ∀ args (w : World), (callFunc F args).run Tryz.prog w = .ok (.enter F args) w)
    (hask : ∀ t Y, Below w.heap.size w Y → Calls Tryz.prog F (#[.int .i64 t] ++ caps) Y (Ret (.bool (ask t)) Y)) :
    Calls Tryz.prog 71 #[.int .i64 all, .func (.func F) #[] caps] w (Ret (.int .i64 (fewS ask all)) w) := by
  obtain ⟨N, hN⟩ : ∃ N : Nat, (popc all + 1).toNat = N := ⟨_, rfl⟩
  have hpr := popc_rng all
  have hNi : (N : Int) = popc all + 1 := by omega
  have hN13 : N ≤ 13 := by omega
  have HT := Lib.hid (try_any ask all ((w.alloc (.cells #[.int .i64 all] 101)).alloc (.cells #[.func (.func F) #[] caps] 100)) w.heap.size (w.heap.size + 1) (w.heap.size + 1 + 1) (w.heap.size + 1 + 1 + 1) F caps hcall (fun t Y hY => hask t Y ((BA (newB w _) _).trans (hY.mono (by omega)))))
  have HR : Hid (fewS ask all = (fewTo ask all N).getD 0) := by show _ = _; unfold fewS; rw [hN]
  have HFK : Hid (∀ n x, n ≤ N → fewTo ask all n = some x → fewTo ask all N = some x) := fun n x hn h => fewTo_keep h hn
  have HFS : Hid (∀ n, fewTo ask all n = none → fewTo ask all (n + 1) = tryS ask all 10 0 n) := fun n h => by rw [fewTo, h]
  have HF0 : Hid (fewTo ask all 0 = none) := rfl
  have HPN := Lib.hid hNi
  have hSZ := Lib.hid (fun W => size_any all W h0 h1)
  generalize fewS ask all = R at *
  generalize fewTo ask all = G at *
  have hmf : ∀ (fn : Fn) (first cap : Array Value) (w : World), (Instr.makeFunc fn first cap).run Tryz.prog w = .ok (.func fn first cap) w := fun _ _ _ _ => rfl
  have hst := @store_fnF Tryz.prog
  clear hask hN hNi
  generalize popc all = P at *
  go_enter Tryz.func71, Tryz.ntmps71
  go_wp2_with fail
  obtain ⟨W, hW⟩ : ∃ X, ((((w.alloc (.cells #[.int .i64 all] 101)).alloc (.cells #[.func (.func F) #[] caps] 100)).alloc (.cells #[.int .i64 0] 101)).alloc (.cells #[.func (.func 119) #[] #[.pointer (some ⟨w.heap.size + 1 + 1, 0, none⟩), .pointer (some ⟨w.heap.size + 1, 0, none⟩), .pointer (some ⟨w.heap.size + 1 + 1 + 1, 0, none⟩), .pointer (some ⟨w.heap.size, 0, none⟩)]] 146)) = X := ⟨_, rfl⟩
  have hE : Env ((w.alloc (.cells #[.int .i64 all] 101)).alloc (.cells #[.func (.func F) #[] caps] 100)) W w.heap.size (w.heap.size + 1) (w.heap.size + 1 + 1) (w.heap.size + 1 + 1 + 1) F caps all := by
    rw [← hW]
    refine ⟨by simp [go_sem], by simp [go_sem], by simp [go_sem], ⟨0, by simp [go_sem]⟩, by simp [go_sem], ?_, by omega, by omega, by omega⟩
    have := BA (newB ((w.alloc (.cells #[.int .i64 all] 101)).alloc (.cells #[.func (.func F) #[] caps] 100)) (.cells #[.int .i64 0] 101)) (.cells #[.func (.func 119) #[] #[.pointer (some ⟨w.heap.size + 1 + 1, 0, none⟩), .pointer (some ⟨w.heap.size + 1, 0, none⟩), .pointer (some ⟨w.heap.size + 1 + 1 + 1, 0, none⟩), .pointer (some ⟨w.heap.size, 0, none⟩)]] 146)
    rw [World.size_alloc, World.size_alloc] at this
    exact this
  have hB0 : Below w.heap.size w ((w.alloc (.cells #[.int .i64 all] 101)).alloc (.cells #[.func (.func F) #[] caps] 100)) := BA (newB w _) _
  rw [hW]
  clear hW
  generalize (w.alloc (.cells #[.int .i64 all] 101)).alloc (.cells #[.func (.func F) #[] caps] 100) = w1 at *
  refine (hSZ.out W).mono ?_
  rintro e w' ⟨rfl, rfl⟩
  rw [show P = (N : Int) - 1 by have := HPN.out; omega]
  clear hSZ
  go_wp2_with fail
  have HTK : Hid (∀ (k : Nat) W, k ≤ 100 → Env w1 W w.heap.size (w.heap.size + 1) (w.heap.size + 1 + 1) (w.heap.size + 1 + 1 + 1) F caps all → Calls Tryz.prog 119 #[.int .i64 0, .int .i64 10, .int .i64 k, .pointer (some ⟨w.heap.size + 1 + 1, 0, none⟩), .pointer (some ⟨w.heap.size + 1, 0, none⟩), .pointer (some ⟨w.heap.size + 1 + 1 + 1, 0, none⟩), .pointer (some ⟨w.heap.size, 0, none⟩)] W (TryOut (tryS ask all 10 0 k) (w.heap.size + 1 + 1) W)) := fun k W hk hE => HT.out 10 0 k W (by omega) hk hE
  clear HT hpr
  go_loopw [12] (fun i wr => ∃ k : Nat, k ≤ N ∧ i = .int .i64 k ∧ Hid (G k = none) ∧ Env w1 wr w.heap.size (w.heap.size + 1) (w.heap.size + 1 + 1) (w.heap.size + 1 + 1 + 1) F caps all) (fun i _ => N - (intOf i).toNat)
  case atStart => exact ⟨0, by omega, rfl, HF0.out, hE⟩
  case round =>
    clear hE
    obtain ⟨k, hk, rfl, hGk, hE⟩ := hrel
    have hk0 : (0 : Int) ≤ (k : Int) := by omega
    have hBf := hE.up
    have hfin0 : Below w.heap.size w wr := hB0.trans (hBf.mono (by omega))
    by_cases hlt : k < N
    · have hki : (k : Int) < (N : Int) := by omega
      have hbt := hE.bt
      have hstep := HFS.out k hGk.out
      cases hr : tryS ask all 10 0 k with
      | some x =>
        rw [hr] at hstep
        have hRx : Hid (R = x) := by show _ = _; rw [HR.out, HFK.out (k + 1) x (by omega) hstep]; rfl
        have hT := HTK.out k wr (by omega) hE
        rw [hr] at hT
        have HTT := Lib.hid hT
        clear hstep hr hT HTK
        go_wp2_with fail
        refine HTT.out.mono ?_
        rintro e w2 ⟨⟨rfl, hg2⟩, hf2, v2, hv2, hx2⟩
        obtain rfl : v2 = x := hx2 x rfl
        have hfin := hfin0.grown hg2 (by have := hE.lt; omega) (fun k e => by cases e; omega)
        clear hx2 hg2 hE hBf hfin0
        dsimp only [Option.isSome]
        go_wp2_with fail
        go_ret
        exact ⟨by rw [hRx.out]; rfl, hfin⟩
      | none =>
        rw [hr] at hstep
        have hT := HTK.out k wr (by omega) hE
        rw [hr] at hT
        have HTT := Lib.hid hT
        have hst2 := Lib.hid hstep
        clear hstep hr hT
        go_wp2_with fail
        refine HTT.out.mono ?_
        rintro e w2 ⟨⟨rfl, hg2⟩, hf2, v2, hv2, hx2⟩
        have hE2 := hE.step hg2 hf2 ⟨v2, hv2⟩
        clear hx2 hg2 hE hBf hfin0 hbt
        dsimp only [Option.isSome]
        go_wp2_with fail
        go_roundw
        case rel => exact ⟨k + 1, by omega, by go_num, hst2.out, hE2⟩
        case measure => simp [intOf]; omega
    · obtain rfl : k = N := by omega
      have hR0 : Hid (R = 0) := by show _ = _; rw [HR.out, hGk.out]; rfl
      clear hE hBf
      go_wp2_with fail
      go_ret
      exact ⟨by rw [hR0.out]; rfl, hfin0⟩
end Go.Proofs.YtdkegkacpdkjgaaGreat
