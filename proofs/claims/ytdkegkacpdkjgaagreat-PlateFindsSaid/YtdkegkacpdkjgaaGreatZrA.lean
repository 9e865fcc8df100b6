/- Plate: the reference zoneworksref04: what is told of all scales that can be: the least span with what each of them tells. -/
import Derived.Test.YtdkegkacpdkjgaaGreatPrk
import Derived.Test.YtdkegkacpdkjgaaGreatPma
import Derived.Deep.AppendLies
import Derived.Test.YtdkegkacpdkjgaaGreatTr
import Derived.Test.YtdkegkacpdkjgaaGreatSeq
namespace Go.Proofs.YtdkegkacpdkjgaaGreat
open Go.RowKit

theorem hasN_any (v i : Nat) (w : World) (hv : v < 4096) (hi : i ≤ 12) : Calls Tryz.prog 107 #[.int .i64 (v : Int), .int .i64 (i : Int)] w (Ret (.bool (v.testBit i)) w) := by
  have hp : 1 ≤ (2 : Int) ^ i ∧ (2 : Int) ^ i ≤ 4096 := (by decide +kernel : ∀ k : Fin 13, 1 ≤ (2 : Int) ^ k.val ∧ (2 : Int) ^ k.val ≤ 4096) ⟨i, by omega⟩
  obtain ⟨pw, hpw⟩ : ∃ pw, (2 : Int) ^ i = pw := ⟨_, rfl⟩
  have hpi : (2 : Int) ^ i = ((2 ^ i : Nat) : Int) := by simp
  have hq : (v : Int) / (2 : Int) ^ i = ((v / 2 ^ i : Nat) : Int) := by rw [hpi]; exact (Int.natCast_ediv _ _).symm
  have hb : ((v : Int) / (2 : Int) ^ i % 2 == 1) = v.testBit i := by
    rw [hq, Nat.testBit_eq_decide_div_mod_eq]
    have h2 : ((v / 2 ^ i : Nat) : Int) % 2 = (((v / 2 ^ i) % 2 : Nat) : Int) := by omega
    rw [h2]
    by_cases h : v / 2 ^ i % 2 = 1
    · rw [h]; rfl
    · rw [decide_eq_false h]; simp; omega
  have HB := Lib.hid hb
  have hv0 : (0 : Int) ≤ (v : Int) := by omega
  have hv1 : (v : Int) ≤ 4096 := by omega
  have hPW := Lib.hid (fun Y => powerR_any i hi Y)
  clear hb hq hpi
  rw [hpw] at HB hPW hp
  clear hpw
  obtain ⟨hp0, hp1⟩ := hp
  have hq0 : 0 ≤ (v : Int) / pw := Int.ediv_nonneg (by omega) (by omega)
  have hq2 : (v : Int) / pw ≤ (v : Int) := Int.ediv_le_self _ (by omega)
  have hq1 : (v : Int) / pw ≤ 4096 := by omega
  have hpz : ¬ pw = 0 := by omega
  go_enter Tryz.func107, Tryz.ntmps107
  go_wp2_with fail
  refine (hPW.out w).mono ?_
  rintro e w1 ⟨rfl, hb⟩
  clear hPW
  go_wp2_with fail
  go_ret
  exact ⟨congrArg (fun b => Ending.returned (Value.bool b)) HB.out, hb⟩
set_option maxRecDepth 100000 in
set_option maxHeartbeats 2000000 in
theorem way_any (s : St) (d : Bool) (w : World) : Calls Tryz.prog 108 #[.agg s.cells, .bool d] w (Ret (.tuple #[.agg #[.int .i64 (s.on d).1, .int .i64 (s.on d).2], .agg #[.int .i64 (s.sky d).1, .int .i64 (s.sky d).2]]) w) := by
  obtain ⟨W0, hW0⟩ : ∃ X, ((w.alloc (.cells s.cells 60)).alloc (.cells #[.int .i64 0, .int .i64 0] 23)).alloc (.cells #[.int .i64 0, .int .i64 0] 23) = X := ⟨_, rfl⟩
  have hB : Below w.heap.size w W0 := by rw [← hW0]; exact BA (BA (newB _ _) _) _
  have hst : StAt s w.heap.size 0 W0 := by rw [← hW0]; exact ((StAt.new s _ w).below (newB _ _) (by simp)).below (newB _ _) (by simp; omega)
  have hs1 : Slots (w.heap.size + 1) 2 W0 := by
    rw [← hW0]; intro o ho
    have : o = 0 ∨ o = 1 := by omega
    rcases this with rfl | rfl <;> simp [go_sem]
  have hs2 : Slots (w.heap.size + 1 + 1) 2 W0 := by
    rw [← hW0]; intro o ho
    have : o = 0 ∨ o = 1 := by omega
    rcases this with rfl | rfl <;> simp [go_sem]
  obtain ⟨z0, z1, z2, z3, z4, z5, z6, z7, z8⟩ := hst
  unfold St.cells at hW0 ⊢
  cases d
  · go_enter Tryz.func108, Tryz.ntmps108
    go_upto_region 3 with fail
    have hI : Hid (∀ (Y : World) (b o : Nat) (v : Value), b ≠ w.heap.size → (Y.cell? ⟨w.heap.size, 0, none⟩ = some (.int .i64 s.x0) ∧ Y.cell? ⟨w.heap.size, 1, none⟩ = some (.int .i64 s.x1) ∧ Y.cell? ⟨w.heap.size, 5, none⟩ = some (.int .i64 s.e0) ∧ Y.cell? ⟨w.heap.size, 6, none⟩ = some (.int .i64 s.e1)) → ((Y.setCell ⟨b, o, none⟩ v).cell? ⟨w.heap.size, 0, none⟩ = some (.int .i64 s.x0) ∧ (Y.setCell ⟨b, o, none⟩ v).cell? ⟨w.heap.size, 1, none⟩ = some (.int .i64 s.x1) ∧ (Y.setCell ⟨b, o, none⟩ v).cell? ⟨w.heap.size, 5, none⟩ = some (.int .i64 s.e0) ∧ (Y.setCell ⟨b, o, none⟩ v).cell? ⟨w.heap.size, 6, none⟩ = some (.int .i64 s.e1))) := fun Y b o v hb hc => by
      have hne : ∀ k, (⟨b, o, none⟩ : Addr) ≠ ⟨w.heap.size, k, none⟩ := fun k he => by injection he with h1; exact hb h1
      exact ⟨by rw [World.cell?_setCell_other _ _ _ _ (hne _)]; exact hc.1, by rw [World.cell?_setCell_other _ _ _ _ (hne _)]; exact hc.2.1, by rw [World.cell?_setCell_other _ _ _ _ (hne _)]; exact hc.2.2.1, by rw [World.cell?_setCell_other _ _ _ _ (hne _)]; exact hc.2.2.2⟩
    have hS0 : W0.drew.cell? ⟨w.heap.size, 0, none⟩ = some (.int .i64 s.x0) ∧ W0.drew.cell? ⟨w.heap.size, 1, none⟩ = some (.int .i64 s.x1) ∧ W0.drew.cell? ⟨w.heap.size, 5, none⟩ = some (.int .i64 s.e0) ∧ W0.drew.cell? ⟨w.heap.size, 6, none⟩ = some (.int .i64 s.e1) := ⟨z0, z1, z5, z6⟩
    have hs1 := hs1.drew
    have hs2 := hs2.drew
    have hB := hB.drew
    clear z0 z1 z2 z3 z4 z5 z6 z7 z8
    clear hW0
    refine wp_region_seq [(0, true), (1, true), (2, true), (3, true), (4, false), (5, false)] (fun Y => Y.cell? ⟨w.heap.size, 0, none⟩ = some (.int .i64 s.x0) ∧ Y.cell? ⟨w.heap.size, 1, none⟩ = some (.int .i64 s.x1) ∧ Y.cell? ⟨w.heap.size, 5, none⟩ = some (.int .i64 s.e0) ∧ Y.cell? ⟨w.heap.size, 6, none⟩ = some (.int .i64 s.e1)) (by kernel_rfl) (by kernel_rfl) (fun _ _ d _ _ h => by cases d <;> exact h) hS0 ?_
    generalize W0.drew = Y0 at *
    repeat (first | (refine seq_read rfl (by rfl) _ (fun w' hS => by (try dsimp only at hS); go_simp; (try with_reducible rfl)) ?_; (try simp only [Act.put, List.setIfInBounds_toArray, List.set_cons_zero, List.set_cons_succ])) | (refine seq_skip rfl (by rfl) ?_; (try simp only [Act.put, List.setIfInBounds_toArray, List.set_cons_zero, List.set_cons_succ])))
    refine seq_do rfl (by rfl) (fun K hK => ?_)
    obtain ⟨u0, q0, f0⟩ := hs1.get 0 (by omega)
    obtain ⟨u1, q1, f1⟩ := hs1.get 1 (by omega)
    have hS1 := hI.out _ (w.heap.size + 1) 1 (.int .i64 s.x1) (by omega) (hI.out Y0 (w.heap.size + 1) 0 (.int .i64 s.x0) (by omega) hS0)
    have r0 : ((Y0.setCell ⟨w.heap.size + 1, 0, none⟩ (.int .i64 s.x0)).setCell ⟨w.heap.size + 1, 1, none⟩ (.int .i64 s.x1)).cell? ⟨w.heap.size + 1, 0, none⟩ = some (.int .i64 s.x0) := by simp [go_sem, q0]
    have r1 : ((Y0.setCell ⟨w.heap.size + 1, 0, none⟩ (.int .i64 s.x0)).setCell ⟨w.heap.size + 1, 1, none⟩ (.int .i64 s.x1)).cell? ⟨w.heap.size + 1, 1, none⟩ = some (.int .i64 s.x1) := by simp [go_sem, q1]
    have hs2 := (hs2.set ⟨w.heap.size + 1, 0, none⟩ (.int .i64 s.x0)).set ⟨w.heap.size + 1, 1, none⟩ (.int .i64 s.x1)
    have hB := BC (BC hB (w.heap.size + 1) 0 (by omega) (.int .i64 s.x0)) (w.heap.size + 1) 1 (by omega) (.int .i64 s.x1)
    go_simp
    refine hK _ _ hS1 ?_
    clear hK K q0 q1 f0 f1 u0 u1 hs1 hS0
    generalize (Y0.setCell ⟨w.heap.size + 1, 0, none⟩ (.int .i64 s.x0)).setCell ⟨w.heap.size + 1, 1, none⟩ (.int .i64 s.x1) = Y1 at *
    (try simp only [Act.put, List.setIfInBounds_toArray, List.set_cons_zero, List.set_cons_succ])
    refine seq_last rfl (by rfl) (by kernel_rfl) (fun K hK => ?_)
    obtain ⟨u0, q0, f0⟩ := hs2.get 0 (by omega)
    obtain ⟨u1, q1, f1⟩ := hs2.get 1 (by omega)
    have hB := BC (BC hB (w.heap.size + 1 + 1) 0 (by omega) (.int .i64 s.e0)) (w.heap.size + 1 + 1) 1 (by omega) (.int .i64 s.e1)
    go_simp
    refine hK _ _ ?_
    clear hK K
    show Exit.then _ _ Exit.normal _ _
    go_wp2_with fail
    exact bodyPost_ret (v := .tuple #[.agg #[.int .i64 s.x0, .int .i64 s.x1], .agg #[.int .i64 s.e0, .int .i64 s.e1]]) (by simp [results, Tryz.results108, go_sem, r0, r1, q0, q1]) rfl ⟨rfl, hB⟩
  · go_enter Tryz.func108, Tryz.ntmps108
    go_upto_region 2 with fail
    have hI : Hid (∀ (Y : World) (b o : Nat) (v : Value), b ≠ w.heap.size → (Y.cell? ⟨w.heap.size, 2, none⟩ = some (.int .i64 s.y0) ∧ Y.cell? ⟨w.heap.size, 3, none⟩ = some (.int .i64 s.y1) ∧ Y.cell? ⟨w.heap.size, 7, none⟩ = some (.int .i64 s.n0) ∧ Y.cell? ⟨w.heap.size, 8, none⟩ = some (.int .i64 s.n1)) → ((Y.setCell ⟨b, o, none⟩ v).cell? ⟨w.heap.size, 2, none⟩ = some (.int .i64 s.y0) ∧ (Y.setCell ⟨b, o, none⟩ v).cell? ⟨w.heap.size, 3, none⟩ = some (.int .i64 s.y1) ∧ (Y.setCell ⟨b, o, none⟩ v).cell? ⟨w.heap.size, 7, none⟩ = some (.int .i64 s.n0) ∧ (Y.setCell ⟨b, o, none⟩ v).cell? ⟨w.heap.size, 8, none⟩ = some (.int .i64 s.n1))) := fun Y b o v hb hc => by
      have hne : ∀ k, (⟨b, o, none⟩ : Addr) ≠ ⟨w.heap.size, k, none⟩ := fun k he => by injection he with h1; exact hb h1
      exact ⟨by rw [World.cell?_setCell_other _ _ _ _ (hne _)]; exact hc.1, by rw [World.cell?_setCell_other _ _ _ _ (hne _)]; exact hc.2.1, by rw [World.cell?_setCell_other _ _ _ _ (hne _)]; exact hc.2.2.1, by rw [World.cell?_setCell_other _ _ _ _ (hne _)]; exact hc.2.2.2⟩
    have hS0 : W0.drew.cell? ⟨w.heap.size, 2, none⟩ = some (.int .i64 s.y0) ∧ W0.drew.cell? ⟨w.heap.size, 3, none⟩ = some (.int .i64 s.y1) ∧ W0.drew.cell? ⟨w.heap.size, 7, none⟩ = some (.int .i64 s.n0) ∧ W0.drew.cell? ⟨w.heap.size, 8, none⟩ = some (.int .i64 s.n1) := ⟨z2, z3, z7, z8⟩
    have hs1 := hs1.drew
    have hs2 := hs2.drew
    have hB := hB.drew
    clear z0 z1 z2 z3 z4 z5 z6 z7 z8
    clear hW0
    refine wp_region_seq [(0, true), (1, true), (2, true), (3, true), (4, false), (5, false)] (fun Y => Y.cell? ⟨w.heap.size, 2, none⟩ = some (.int .i64 s.y0) ∧ Y.cell? ⟨w.heap.size, 3, none⟩ = some (.int .i64 s.y1) ∧ Y.cell? ⟨w.heap.size, 7, none⟩ = some (.int .i64 s.n0) ∧ Y.cell? ⟨w.heap.size, 8, none⟩ = some (.int .i64 s.n1)) (by kernel_rfl) (by kernel_rfl) (fun _ _ d _ _ h => by cases d <;> exact h) hS0 ?_
    generalize W0.drew = Y0 at *
    repeat (first | (refine seq_read rfl (by rfl) _ (fun w' hS => by (try dsimp only at hS); go_simp; (try with_reducible rfl)) ?_; (try simp only [Act.put, List.setIfInBounds_toArray, List.set_cons_zero, List.set_cons_succ])) | (refine seq_skip rfl (by rfl) ?_; (try simp only [Act.put, List.setIfInBounds_toArray, List.set_cons_zero, List.set_cons_succ])))
    refine seq_do rfl (by rfl) (fun K hK => ?_)
    obtain ⟨u0, q0, f0⟩ := hs1.get 0 (by omega)
    obtain ⟨u1, q1, f1⟩ := hs1.get 1 (by omega)
    have hS1 := hI.out _ (w.heap.size + 1) 1 (.int .i64 s.y1) (by omega) (hI.out Y0 (w.heap.size + 1) 0 (.int .i64 s.y0) (by omega) hS0)
    have r0 : ((Y0.setCell ⟨w.heap.size + 1, 0, none⟩ (.int .i64 s.y0)).setCell ⟨w.heap.size + 1, 1, none⟩ (.int .i64 s.y1)).cell? ⟨w.heap.size + 1, 0, none⟩ = some (.int .i64 s.y0) := by simp [go_sem, q0]
    have r1 : ((Y0.setCell ⟨w.heap.size + 1, 0, none⟩ (.int .i64 s.y0)).setCell ⟨w.heap.size + 1, 1, none⟩ (.int .i64 s.y1)).cell? ⟨w.heap.size + 1, 1, none⟩ = some (.int .i64 s.y1) := by simp [go_sem, q1]
    have hs2 := (hs2.set ⟨w.heap.size + 1, 0, none⟩ (.int .i64 s.y0)).set ⟨w.heap.size + 1, 1, none⟩ (.int .i64 s.y1)
    have hB := BC (BC hB (w.heap.size + 1) 0 (by omega) (.int .i64 s.y0)) (w.heap.size + 1) 1 (by omega) (.int .i64 s.y1)
    go_simp
    refine hK _ _ hS1 ?_
    clear hK K q0 q1 f0 f1 u0 u1 hs1 hS0
    generalize (Y0.setCell ⟨w.heap.size + 1, 0, none⟩ (.int .i64 s.y0)).setCell ⟨w.heap.size + 1, 1, none⟩ (.int .i64 s.y1) = Y1 at *
    (try simp only [Act.put, List.setIfInBounds_toArray, List.set_cons_zero, List.set_cons_succ])
    refine seq_last rfl (by rfl) (by kernel_rfl) (fun K hK => ?_)
    obtain ⟨u0, q0, f0⟩ := hs2.get 0 (by omega)
    obtain ⟨u1, q1, f1⟩ := hs2.get 1 (by omega)
    have hB := BC (BC hB (w.heap.size + 1 + 1) 0 (by omega) (.int .i64 s.n0)) (w.heap.size + 1 + 1) 1 (by omega) (.int .i64 s.n1)
    go_simp
    refine hK _ _ ?_
    clear hK K
    show Exit.then _ _ Exit.normal _ _
    go_wp2_with fail
    exact bodyPost_ret (v := .tuple #[.agg #[.int .i64 s.y0, .int .i64 s.y1], .agg #[.int .i64 s.n0, .int .i64 s.n1]]) (by simp [results, Tryz.results108, go_sem, r0, r1, q0, q1]) rfl ⟨rfl, hB⟩
theorem tdiv_k {a : Int} (h : 0 ≤ a) : a.tdiv 1000 = a / 1000 := Int.tdiv_eq_ediv_of_nonneg h
set_option maxRecDepth 100000 in
theorem long_any (sc a b : Int) (w : World) (h0 : 0 ≤ sc) (h1 : sc ≤ 1000) (ha : 0 ≤ a) (hab : a ≤ b) (hb : b ≤ 32768) : Calls Tryz.prog 109 #[.int .i64 sc, .agg #[.int .i64 a, .int .i64 b]] w (Ret (.agg #[.int .i64 (sc * a / 1000), .int .i64 (sc * b / 1000)]) w) := by
  have n0 := Int.mul_nonneg h0 ha
  have n1 := Int.mul_le_mul h1 (show a ≤ 32768 by omega) ha (by omega : (0 : Int) ≤ 1000)
  have m0 := Int.mul_nonneg h0 (show 0 ≤ b by omega)
  have m1 := Int.mul_le_mul h1 hb (show 0 ≤ b by omega) (by omega : (0 : Int) ≤ 1000)
  obtain ⟨x, hx⟩ : ∃ x, sc * a = x := ⟨_, rfl⟩
  obtain ⟨y, hy⟩ : ∃ y, sc * b = y := ⟨_, rfl⟩
  rw [hx] at n0 n1 ⊢
  rw [hy] at m0 m1 ⊢
  go_enter Tryz.func109, Tryz.ntmps109
  go_wp2_with fail
  exact bodyPost_ret (v := .agg #[.int .i64 (x / 1000), .int .i64 (y / 1000)]) (by simp [results, Tryz.results109, go_sem]) rfl ⟨rfl, (by (repeat (first | assumption | exact Below.refl _ _ | refine BA ?_ _ | refine BC ?_ _ _ (by first | omega | (simp; done) | (simp; omega)) _ | refine Below.drew ?_ | refine BT ?_ (by assumption))))⟩
set_option maxRecDepth 100000 in
theorem hull_any (a b c d : Int) (f : Bool) (w : World) : Calls Tryz.prog 46 #[.agg #[.int .i64 a, .int .i64 b], .agg #[.int .i64 c, .int .i64 d], .bool f] w (Ret (.agg #[.int .i64 (if f then c else min a c), .int .i64 (if f then d else max b d)]) w) := by
  cases f
  · obtain ⟨x, hx⟩ : ∃ x, (if c < a then c else a) = x := ⟨_, rfl⟩
    obtain ⟨y, hy⟩ : ∃ y, (if b < d then d else b) = y := ⟨_, rfl⟩
    have e1 : min a c = x := by rw [← hx]; split <;> omega
    have e2 : max b d = y := by rw [← hy]; split <;> omega
    simp only [Bool.false_eq_true, if_false]
    rw [e1, e2]
    clear e1 e2
    go_enter Tryz.func46, Tryz.ntmps46
    go_wp2_with fail
    exact bodyPost_ret (v := .agg #[.int .i64 x, .int .i64 y]) (by simp [results, Tryz.results46, go_sem]) rfl ⟨rfl, (by (repeat (first | assumption | exact Below.refl _ _ | refine BA ?_ _ | refine BC ?_ _ _ (by first | omega | (simp; done) | (simp; omega)) _ | refine Below.drew ?_ | refine BT ?_ (by assumption))))⟩
  · simp only [if_true]
    go_enter Tryz.func46, Tryz.ntmps46
    go_wp2_with fail
    exact bodyPost_ret (v := .agg #[.int .i64 c, .int .i64 d]) (by simp [results, Tryz.results46, go_sem]) rfl ⟨rfl, (by (repeat (first | assumption | exact Below.refl _ _ | refine BA ?_ _ | refine BC ?_ _ _ (by first | omega | (simp; done) | (simp; omega)) _ | refine Below.drew ?_ | refine BT ?_ (by assumption))))⟩
end Go.Proofs.YtdkegkacpdkjgaaGreat

namespace Go.Proofs.YtdkegkacpdkjgaaGreat
open Go.RowKit

/-- A span in a variable. -/
structure Spn2 (X : World) (P : Nat) (s x : Int) : Prop where
  c0 : X.cell? ⟨P, 0, none⟩ = some (.int .i64 s)
  c1 : X.cell? ⟨P, 1, none⟩ = some (.int .i64 x)
  f0 : X.frozen? ⟨P, 0, none⟩ = false
  f1 : X.frozen? ⟨P, 1, none⟩ = false
theorem Spn2.grown {X X' : World} {P : Nat} {s x : Int} (h : Spn2 X P s x) (hb : Below X.heap.size X X') : Spn2 X' P s x :=
  ⟨cellB h.c0 hb, cellB h.c1 hb, (hb.frozen (p := ⟨P, 0, none⟩) (World.block_lt_of_cell? _ _ h.c0)).trans h.f0, (hb.frozen (p := ⟨P, 1, none⟩) (World.block_lt_of_cell? _ _ h.c1)).trans h.f1⟩
theorem Spn2.set {X : World} {P : Nat} {s x : Int} (h : Spn2 X P s x) (s' x' : Int) : Spn2 ((X.setCell ⟨P, 0, none⟩ (.int .i64 s')).setCell ⟨P, 1, none⟩ (.int .i64 x')) P s' x' := by
  obtain ⟨c0, c1, f0, f1⟩ := h
  constructor <;> simp [go_sem, c0, c1, f0, f1]
theorem spn2_new (w : World) (s x : Int) (T : TypeId) : Spn2 (w.alloc (.cells #[.int .i64 s, .int .i64 x] T)) w.heap.size s x := ⟨by simp [go_sem], by simp [go_sem], by simp, by simp⟩
/-- Where the corner can be, as the reference has it. -/
def crR (ss : List St) (sc : Int) (R : Nat → Bool) (d : Bool) : Nat → Int × Int
  | 0 => (-1099511627776, 1099511627776)
  | k + 1 => if R k then (max (crR ss sc R d k).1 (((ss.getD k default).sky d).1 - (beyS sc (ss.getD k default) d).2), min (crR ss sc R d k).2 (((ss.getD k default).sky d).2 - (beyS sc (ss.getD k default) d).1)) else crR ss sc R d k
set_option maxRecDepth 100000 in
set_option maxHeartbeats 4000000 in
theorem corner_any (p : Pl) (ss : List St) (v : Nat) (sc : Int) (d : Bool) (w : World) (hm : PlAt p ss w) (hst : ∀ i, i < ss.length → StOk (ss.getD i default) d) (hn : p.n ≤ 12) (hv : v < 4096) (hk : ∀ i, i < ss.length → v.testBit i = true → (ss.getD i default).k = true) (h0 : 0 ≤ sc) (h1 : sc ≤ 1000) :
    Calls Tryz.prog 47 #[p.val, .int .i64 (v : Int), .int .i64 sc, .bool d] w (Ret (.agg #[.int .i64 (crR ss sc v.testBit d p.n).1, .int .i64 (crR ss sc v.testBit d p.n).2]) w) := by
  unfold Pl.val
  obtain ⟨W1, hW1⟩ : ∃ X, (w.alloc (.cells #[.int .i64 p.lo, .int .i64 p.hi, .slice p.a p.n p.cap] 26)).alloc (.cells #[.int .i64 0, .int .i64 0] 23) = X := ⟨_, rfl⟩
  have hB1 : Below w.heap.size w W1 := by rw [← hW1]; exact BA (newB _ _) _
  have hQ : BoxP W1 w.heap.size p := by rw [← hW1]; exact (boxP_new w p _).grown (newB _ _)
  have hR : Slots (w.heap.size + 1) 2 W1 := by
    rw [← hW1]; intro o ho
    have : o = 0 ∨ o = 1 := by omega
    rcases this with rfl | rfl <;> simp [go_sem]
  have hl1 : w.heap.size + 1 < W1.heap.size := by rw [← hW1]; simp
  have hm1 := Lib.hid (hm.below hB1 (Nat.le_refl _))
  have hNL := Lib.hid hm.nl
  have HST := Lib.hid hst
  have HKN := Lib.hid hk
  have HR := Lib.hid hR
  have HQ := Lib.hid hQ
  have HW := Lib.hid hB1
  have g0 : Hid (crR ss sc v.testBit d 0 = (-1099511627776, 1099511627776)) := rfl
  have HG : Hid (∀ k, crR ss sc v.testBit d (k + 1) = if v.testBit k then (max (crR ss sc v.testBit d k).1 (((ss.getD k default).sky d).1 - (beyS sc (ss.getD k default) d).2), min (crR ss sc v.testBit d k).2 (((ss.getD k default).sky d).2 - (beyS sc (ss.getD k default) d).1)) else crR ss sc v.testBit d k) := fun _ => rfl
  generalize crR ss sc v.testBit d = cr at *
  have hnw := spn2_new W1 (-1099511627776) 1099511627776 23
  have hBn := newB W1 (.cells #[.int .i64 (-1099511627776), .int .i64 1099511627776] 23)
  have hl2 : W1.heap.size ≤ W1.heap.size := Nat.le_refl _
  clear hm hst hk hR hQ hB1
  go_enter Tryz.func47, Tryz.ntmps47
  go_upto_region 3 with fail
  generalize W1.alloc (.cells #[.int .i64 (-1099511627776), .int .i64 1099511627776] 23) = W2 at *
  have hpn0 : (0 : Int) ≤ (p.n : Int) := by omega
  go_loopw [10] (fun i wz => ∃ k : Nat, k ≤ p.n ∧ i = .int .i64 k ∧ Spn2 wz W1.heap.size (cr k).1 (cr k).2 ∧ Below W1.heap.size W1 wz) (fun i _ => p.n - (intOf i).toNat)
  case atStart => exact ⟨0, by omega, rfl, by rw [g0.out]; exact hnw, hBn⟩
  case round =>
    clear hnw hBn
    obtain ⟨k, hk, rfl, hs, hB⟩ := hrel
    obtain ⟨wo, rfl⟩ : ∃ wo : World, wo = wr := ⟨_, rfl⟩
    have hk0 : (0 : Int) ≤ (k : Int) := by omega
    obtain ⟨b0, b1, b2⟩ := HQ.out.grown hB
    by_cases hlt : k < p.n
    · have hki : (k : Int) < (p.n : Int) := by omega
      have hkl : k < ss.length := by rw [hNL.out]; exact hlt
      go_wp2_with fail
      clear b0 b1 b2
      refine (hasN_any v k wo hv (by omega)).mono ?_
      rintro e Y1 ⟨rfl, hx⟩
      have hB := BT hB hx
      replace hs := hs.grown hx
      clear hx
      have hcr := HG.out k
      cases hb : v.testBit k
      · rw [hb] at hcr
        simp only [Bool.false_eq_true, if_false] at hcr
        have HC := Lib.hid hcr
        clear hcr hb
        go_wp2_with fail
        go_roundw
        case rel => exact ⟨k + 1, by omega, by go_num, by rw [HC.out]; exact hs, hB⟩
        case measure => simp [intOf]; omega
      · rw [hb] at hcr
        simp only [if_true] at hcr
        have hK := HKN.out k hkl hb
        have hOK := HST.out k hkl
        obtain ⟨pb, po, hpa, hpb, hct⟩ := hm1.out.star hkl
        have HPA := Lib.hid hpa
        obtain ⟨z0, z1, z2, z3, z4, z5, z6, z7, z8⟩ := hct.below hB hpb
        have hc2 := HQ.out.c2
        rw [hpa] at hc2
        have b2 := cellB hc2 hB
        clear hpa hct hc2 hb
        generalize ss.getD k default = s at *
        have oa := hOK.a
        have ob := hOK.b
        have oc := hOK.c
        have oe := hOK.e hK
        have of := hOK.f hK
        have og := hOK.g hK
        have by0 := bey_rng hOK h0 h1
        unfold beyS at hcr by0
        dsimp only at hcr by0
        clear hOK hK
        go_wp2_with fail
        clear z0 z1 z2 z3 z4 z5 z6 z7 z8 b2
        refine (way_any s d Y1).mono ?_
        rintro e Y2 ⟨rfl, hx⟩
        have hB := BT hB hx
        replace hs := hs.grown hx
        clear hx
        generalize (s.on d).1 = a0 at *
        generalize (s.on d).2 = a1 at *
        generalize (s.sky d).1 = c0 at *
        generalize (s.sky d).2 = c1 at *
        have HLN := Lib.hid (fun Y => long_any sc a0 a1 Y h0 h1 oa ob oc)
        generalize sc * a0 / 1000 = l0 at *
        generalize sc * a1 / 1000 = l1 at *
        obtain ⟨by1, by2, by3⟩ := by0
        generalize cr k = ck at *
        obtain ⟨m0, m1⟩ := ck
        dsimp only at hs hcr
        obtain ⟨n0, hn0⟩ : ∃ n0, (if m0 < c0 - l1 then c0 - l1 else m0) = n0 := ⟨_, rfl⟩
        obtain ⟨n1, hn1⟩ : ∃ n1, (if c1 - l0 < m1 then c1 - l0 else m1) = n1 := ⟨_, rfl⟩
        have e0 : max m0 (c0 - l1) = n0 := by rw [← hn0]; split <;> omega
        have e1 : min m1 (c1 - l0) = n1 := by rw [← hn1]; split <;> omega
        rw [e0, e1] at hcr
        have HC := Lib.hid hcr
        clear e0 e1 hcr
        have hx : Below Y2.heap.size Y2 ((Y2.alloc (.cells #[.int .i64 a0, .int .i64 a1] 23)).alloc (.cells #[.int .i64 c0, .int .i64 c1] 23)) := BA (newB _ _) _
        have k11 : Spn2 ((Y2.alloc (.cells #[.int .i64 a0, .int .i64 a1] 23)).alloc (.cells #[.int .i64 c0, .int .i64 c1] 23)) Y2.heap.size a0 a1 := (spn2_new Y2 a0 a1 _).grown (newB _ _)
        have k12 : Spn2 ((Y2.alloc (.cells #[.int .i64 a0, .int .i64 a1] 23)).alloc (.cells #[.int .i64 c0, .int .i64 c1] 23)) (Y2.heap.size + 1) c0 c1 := by have := spn2_new (Y2.alloc (.cells #[.int .i64 a0, .int .i64 a1] 23)) c0 c1 23; rw [World.size_alloc] at this; exact this
        replace hs := hs.grown hx
        have hB := BT hB hx
        obtain ⟨p11, r11, -, -⟩ := id k11
        clear hx
        go_wp2_with fail
        clear p11 r11
        generalize (Y2.alloc (.cells #[.int .i64 a0, .int .i64 a1] 23)).alloc (.cells #[.int .i64 c0, .int .i64 c1] 23) = Y3 at *
        generalize Y2.heap.size = G at *
        refine (HLN.out Y3).mono ?_
        rintro e Y4 ⟨rfl, hx⟩
        have hB := BT hB hx
        replace hs := hs.grown hx
        replace k12 := k12.grown hx
        have hx := newB Y4 (.cells #[.int .i64 l0, .int .i64 l1] 23)
        have k13 := spn2_new Y4 l0 l1 23
        have hB := BT hB hx
        replace hs := hs.grown hx
        replace k12 := k12.grown hx
        clear k11 HLN hx
        obtain ⟨q0, q1, f0, f1⟩ := id hs
        obtain ⟨r0, r1, -, -⟩ := id k12
        obtain ⟨t0, t1, -, -⟩ := id k13
        have hs2 := Lib.hid (hs.set n0 n1)
        have hB2 := Lib.hid ((hB.setCell (p := ⟨W1.heap.size, 0, none⟩) (Nat.le_refl _) (.int .i64 n0)).setCell (p := ⟨W1.heap.size, 1, none⟩) (Nat.le_refl _) (.int .i64 n1))
        clear hs k12 k13 hB
        go_wp2_with fail
        go_roundw
        case rel => exact ⟨k + 1, by omega, by go_num, by rw [HC.out]; exact hs2.out, hB2.out⟩
        case measure => simp [intOf]; omega
    · obtain rfl : k = p.n := by omega
      generalize cr p.n = cc at *
      obtain ⟨m0, m1⟩ := cc
      dsimp only at hs ⊢
      obtain ⟨q0, q1, -, -⟩ := id hs
      have hr := HR.out.below hB hl1
      obtain ⟨u0, r0, f0⟩ := hr.get 0 (by omega)
      obtain ⟨u1, r1, f1⟩ := hr.get 1 (by omega)
      have hfin := BC (BC (BT HW.out hB) (w.heap.size + 1) 0 (by omega) (.int .i64 m0)) (w.heap.size + 1) 1 (by omega) (.int .i64 m1)
      go_wp2_with fail
      exact bodyPost_ret (v := .agg #[.int .i64 m0, .int .i64 m1]) (by simp [results, Tryz.results47, go_sem, r0, r1]) rfl ⟨rfl, hfin⟩
end Go.Proofs.YtdkegkacpdkjgaaGreat

namespace Go.Proofs.YtdkegkacpdkjgaaGreat
open Go.RowKit

/-- With a scale stars can be right. -/
def crB (ss : List St) (sc : Int) (R : Nat → Bool) (n : Nat) : Bool := decide ((crR ss sc R false n).1 ≤ (crR ss sc R false n).2) && decide ((crR ss sc R true n).1 ≤ (crR ss sc R true n).2)
structure CrOk (p : Pl) (ss : List St) (v : Nat) : Prop where
  st : ∀ i, i < ss.length → ∀ d, StOk (ss.getD i default) d
  n : p.n ≤ 12
  lt : v < 4096
  k : ∀ i, i < ss.length → v.testBit i = true → (ss.getD i default).k = true
theorem spn2_slots {X : World} {g : Nat} (h : Slots g 2 X) (a b : Int) : Spn2 ((X.setCell ⟨g, 0, none⟩ (.int .i64 a)).setCell ⟨g, 1, none⟩ (.int .i64 b)) g a b := by
  obtain ⟨u0, q0, f0⟩ := h.get 0 (by omega)
  obtain ⟨u1, q1, f1⟩ := h.get 1 (by omega)
  constructor <;> simp [go_sem, q0, q1, f0, f1]
theorem Spn2.put {X : World} {P B : Nat} {s x : Int} (h : Spn2 X P s x) (hn : P ≠ B) (o : Nat) (v : Value) : Spn2 (X.setCell ⟨B, o, none⟩ v) P s x := by
  obtain ⟨c0, c1, f0, f1⟩ := h
  have e : ∀ k, (⟨B, o, none⟩ : Addr) ≠ ⟨P, k, none⟩ := fun k he => by injection he with h1; exact hn h1.symm
  exact ⟨by rw [World.cell?_setCell_other _ _ _ _ (e 0)]; exact c0, by rw [World.cell?_setCell_other _ _ _ _ (e 1)]; exact c1, by simpa using f0, by simpa using f1⟩
theorem slots_new2r (w : World) (t : TypeId) : Slots w.heap.size 2 (w.alloc (.cells #[.int .i64 0, .int .i64 0] t)) := by
  intro o ho
  have : o = 0 ∨ o = 1 := by omega
  rcases this with rfl | rfl <;> simp [go_sem]
theorem Slots.lt2r {X : World} {g : Nat} (h : Slots g 2 X) : g < X.heap.size := by
  obtain ⟨v, hv, _⟩ := h.get 0 (by omega)
  exact World.block_lt_of_cell? _ _ hv
set_option maxRecDepth 100000 in
set_option maxHeartbeats 8000000 in
theorem with_any (p : Pl) (ss : List St) (v : Nat) (sc : Int) (w : World) (hm : PlAt p ss w) (ok : CrOk p ss v) (h0 : 0 ≤ sc) (h1 : sc ≤ 1000) :
    Calls Tryz.prog 122 #[p.val, .int .i64 (v : Int), .int .i64 sc] w (Ret (.bool (crB ss sc v.testBit p.n)) w) := by
  have HC : Hid (∀ d Y, Below w.heap.size w Y → Calls Tryz.prog 47 #[.agg #[.int .i64 p.lo, .int .i64 p.hi, .slice p.a p.n p.cap], .int .i64 (v : Int), .int .i64 sc, .bool d] Y (Ret (.agg #[.int .i64 (crR ss sc v.testBit d p.n).1, .int .i64 (crR ss sc v.testBit d p.n).2]) Y)) := fun d Y hY => corner_any p ss v sc d Y (hm.below hY (Nat.le_refl _)) (fun i hi => ok.st i hi d) ok.n ok.lt ok.k h0 h1
  clear hm ok h0 h1
  unfold crB
  have HCF := Lib.hid (HC.out false)
  have HCT := Lib.hid (HC.out true)
  clear HC
  generalize (crR ss sc v.testBit false p.n).1 = a0 at *
  generalize (crR ss sc v.testBit false p.n).2 = a1 at *
  generalize (crR ss sc v.testBit true p.n).1 = b0 at *
  generalize (crR ss sc v.testBit true p.n).2 = b1 at *
  unfold Pl.val
  obtain ⟨W0, hW0⟩ : ∃ X, w.alloc (.cells #[.int .i64 p.lo, .int .i64 p.hi, .slice p.a p.n p.cap] 26) = X := ⟨_, rfl⟩
  have hB0 : Below w.heap.size w W0 := by rw [← hW0]; exact newB _ _
  have hQ : BoxP W0 w.heap.size p := by rw [← hW0]; exact boxP_new w p _
  have HB0 := Lib.hid hB0
  have hI : Hid (∀ Y, Below W0.heap.size W0 Y → Y.cell? ⟨w.heap.size, 0, none⟩ = some (.int .i64 p.lo) ∧ Y.cell? ⟨w.heap.size, 1, none⟩ = some (.int .i64 p.hi) ∧ Y.cell? ⟨w.heap.size, 2, none⟩ = some (.slice p.a p.n p.cap)) := fun Y hY => by
    obtain ⟨z0, z1, z2⟩ := hQ.grown hY
    exact ⟨z0, z1, z2⟩
  go_enter Tryz.func122, Tryz.ntmps122
  go_upto_region 1 with fail
  clear hW0 hB0 hQ
  have hb0 : Below W0.heap.size W0 W0.drew := Below.drew (Below.refl _ _)
  go_cut [7, 8] from 9 to 16 (fun x y X => ∃ P R : Nat, x = .pointer (some ⟨P, 0, none⟩) ∧ y = .pointer (some ⟨R, 0, none⟩) ∧ Spn2 X P a0 a1 ∧ Spn2 X R b0 b1 ∧ Below W0.heap.size W0 X)
  case first =>
    refine wp_region_tree (.read 0 (.read 1 (.read 2 (.read 4 (.read 5 (.read 6 (.three 3 (.three 7 (.two 8 (.one 9 (.one 10 (.one 11 (.leaf)))) 9 (.one 8 (.one 10 (.one 11 (.leaf))))) 8 (.two 7 (.one 9 (.one 10 (.one 11 (.leaf)))) 9 (.one 7 (.one 10 (.one 11 (.leaf))))) 9 (.two 7 (.one 8 (.one 10 (.one 11 (.leaf)))) 8 (.one 7 (.one 10 (.one 11 (.leaf)))))) 8 (.two 3 (.two 7 (.one 9 (.one 10 (.one 11 (.leaf)))) 9 (.one 7 (.one 10 (.one 11 (.leaf))))) 9 (.one 3 (.one 7 (.one 10 (.one 11 (.leaf)))))) 9 (.two 3 (.two 7 (.one 8 (.one 10 (.one 11 (.leaf)))) 8 (.one 7 (.one 10 (.one 11 (.leaf))))) 8 (.one 3 (.one 7 (.one 10 (.one 11 (.leaf))))))))))))) (fun Y => Y.cell? ⟨w.heap.size, 0, none⟩ = some (.int .i64 p.lo) ∧ Y.cell? ⟨w.heap.size, 1, none⟩ = some (.int .i64 p.hi) ∧ Y.cell? ⟨w.heap.size, 2, none⟩ = some (.slice p.a p.n p.cap)) (by kernel_rfl) (by kernel_rfl) (fun _ _ d _ _ h => by cases d <;> exact h) (hI.out _ hb0) ?_
    generalize W0.drew = Y0 at *
    repeat (first | (refine tr_read rfl (by rfl) _ (fun w' hS => by (try dsimp only at hS); go_simp; (try with_reducible rfl)) ?_; (try simp only [Act.put, List.setIfInBounds_toArray, List.set_cons_zero, List.set_cons_succ])) | (refine tr_skip rfl (by rfl) ?_; (try simp only [Act.put, List.setIfInBounds_toArray, List.set_cons_zero, List.set_cons_succ])))
    refine ⟨?_, ?_, ?_⟩
    · skip
      refine tr_step rfl (by rfl) (fun K hK => ?_)
      go_simp
      refine (HCF.out Y0 (HB0.out.trans (hb0.mono HB0.out.size))).mono ?_
      rintro e Y1 ⟨rfl, hx⟩
      have hb1 := BT hb0 hx
      refine hK _ _ (hI.out _ hb1) ?_
      clear hK K hx hb0
      (try simp only [Act.put, List.setIfInBounds_toArray, List.set_cons_zero, List.set_cons_succ])
      refine ⟨?_, ?_, ?_⟩
      · skip
        refine tr_step rfl (by rfl) (fun K hK => ?_)
        go_simp
        refine (HCT.out Y1 (HB0.out.trans (hb1.mono HB0.out.size))).mono ?_
        rintro e Y2 ⟨rfl, hx⟩
        have hb2 := BT hb1 hx
        refine hK _ _ (hI.out _ hb2) ?_
        clear hK K hx hb1
        (try simp only [Act.put, List.setIfInBounds_toArray, List.set_cons_zero, List.set_cons_succ])
        refine ⟨?_, ?_⟩
        · skip
          refine tr_step rfl (by rfl) (fun K hK => ?_)
          have hx := newB Y2 (.cells #[.int .i64 0, .int .i64 0] 23)
          have hs8 := slots_new2r Y2 23
          have hb3 := BT hb2 hx
          have hge8 := hb2.size
          go_simp
          refine hK _ _ (hI.out _ hb3) ?_
          clear hK K hx hb2
          generalize Y2.heap.size = g8 at *
          generalize Y2.alloc (.cells #[.int .i64 0, .int .i64 0] 23) = Y3 at *
          (try simp only [Act.put, List.setIfInBounds_toArray, List.set_cons_zero, List.set_cons_succ])
          refine tr_step rfl (by rfl) (fun K hK => ?_)
          have hx := newB Y3 (.cells #[.int .i64 0, .int .i64 0] 23)
          have hs9 := slots_new2r Y3 23
          have hb4 := BT hb3 hx
          have hge9 := hb3.size
          have hlt8 := hs8.lt2r
          replace hs8 := hs8.below hx hlt8
          go_simp
          refine hK _ _ (hI.out _ hb4) ?_
          clear hK K hx hb3
          generalize Y3.heap.size = g9 at *
          generalize Y3.alloc (.cells #[.int .i64 0, .int .i64 0] 23) = Y4 at *
          (try simp only [Act.put, List.setIfInBounds_toArray, List.set_cons_zero, List.set_cons_succ])
          refine tr_step rfl (by rfl) (fun K hK => ?_)
          have ka := spn2_slots hs8 a0 a1
          have hb5 := BC (BC hb4 g8 0 hge8 (.int .i64 a0)) g8 1 hge8 (.int .i64 a1)
          obtain ⟨u0, q0, f0⟩ := hs8.get 0 (by omega)
          obtain ⟨u1, q1, f1⟩ := hs8.get 1 (by omega)
          have hs9 := (hs9.set ⟨g8, 0, none⟩ (.int .i64 a0)).set ⟨g8, 1, none⟩ (.int .i64 a1)
          have hne : g8 ≠ g9 := by omega
          go_simp
          refine hK _ _ (hI.out _ hb5) ?_
          clear hK K u0 q0 f0 u1 q1 f1 hs8 hb4
          generalize (Y4.setCell ⟨g8, 0, none⟩ (.int .i64 a0)).setCell ⟨g8, 1, none⟩ (.int .i64 a1) = Y5 at *
          (try simp only [Act.put, List.setIfInBounds_toArray, List.set_cons_zero, List.set_cons_succ])
          refine tr_step rfl (by rfl) (fun K hK => ?_)
          have kb := spn2_slots hs9 b0 b1
          have hb6 := BC (BC hb5 g9 0 hge9 (.int .i64 b0)) g9 1 hge9 (.int .i64 b1)
          obtain ⟨u0, q0, f0⟩ := hs9.get 0 (by omega)
          obtain ⟨u1, q1, f1⟩ := hs9.get 1 (by omega)
          have ka := (ka.put hne 0 (.int .i64 b0)).put hne 1 (.int .i64 b1)
          go_simp
          refine hK _ _ (hI.out _ hb6) ?_
          clear hK K u0 q0 f0 u1 q1 f1 hs9 hb5
          generalize (Y5.setCell ⟨g9, 0, none⟩ (.int .i64 b0)).setCell ⟨g9, 1, none⟩ (.int .i64 b1) = Y6 at *
          (try simp only [Act.put, List.setIfInBounds_toArray, List.set_cons_zero, List.set_cons_succ])
          show Exit.then _ _ Exit.normal _ _
          go_wp2_with fail
          go_meet
          exact ⟨g8, g9, rfl, rfl, ka, kb, hb6⟩
        · skip
          refine tr_step rfl (by rfl) (fun K hK => ?_)
          have hx := newB Y2 (.cells #[.int .i64 0, .int .i64 0] 23)
          have hs9 := slots_new2r Y2 23
          have hb7 := BT hb2 hx
          have hge9 := hb2.size
          go_simp
          refine hK _ _ (hI.out _ hb7) ?_
          clear hK K hx hb2
          generalize Y2.heap.size = g9 at *
          generalize Y2.alloc (.cells #[.int .i64 0, .int .i64 0] 23) = Y7 at *
          (try simp only [Act.put, List.setIfInBounds_toArray, List.set_cons_zero, List.set_cons_succ])
          refine tr_step rfl (by rfl) (fun K hK => ?_)
          have hx := newB Y7 (.cells #[.int .i64 0, .int .i64 0] 23)
          have hs8 := slots_new2r Y7 23
          have hb8 := BT hb7 hx
          have hge8 := hb7.size
          have hlt9 := hs9.lt2r
          replace hs9 := hs9.below hx hlt9
          go_simp
          refine hK _ _ (hI.out _ hb8) ?_
          clear hK K hx hb7
          generalize Y7.heap.size = g8 at *
          generalize Y7.alloc (.cells #[.int .i64 0, .int .i64 0] 23) = Y8 at *
          (try simp only [Act.put, List.setIfInBounds_toArray, List.set_cons_zero, List.set_cons_succ])
          refine tr_step rfl (by rfl) (fun K hK => ?_)
          have ka := spn2_slots hs8 a0 a1
          have hb9 := BC (BC hb8 g8 0 hge8 (.int .i64 a0)) g8 1 hge8 (.int .i64 a1)
          obtain ⟨u0, q0, f0⟩ := hs8.get 0 (by omega)
          obtain ⟨u1, q1, f1⟩ := hs8.get 1 (by omega)
          have hs9 := (hs9.set ⟨g8, 0, none⟩ (.int .i64 a0)).set ⟨g8, 1, none⟩ (.int .i64 a1)
          have hne : g8 ≠ g9 := by omega
          go_simp
          refine hK _ _ (hI.out _ hb9) ?_
          clear hK K u0 q0 f0 u1 q1 f1 hs8 hb8
          generalize (Y8.setCell ⟨g8, 0, none⟩ (.int .i64 a0)).setCell ⟨g8, 1, none⟩ (.int .i64 a1) = Y9 at *
          (try simp only [Act.put, List.setIfInBounds_toArray, List.set_cons_zero, List.set_cons_succ])
          refine tr_step rfl (by rfl) (fun K hK => ?_)
          have kb := spn2_slots hs9 b0 b1
          have hb10 := BC (BC hb9 g9 0 hge9 (.int .i64 b0)) g9 1 hge9 (.int .i64 b1)
          obtain ⟨u0, q0, f0⟩ := hs9.get 0 (by omega)
          obtain ⟨u1, q1, f1⟩ := hs9.get 1 (by omega)
          have ka := (ka.put hne 0 (.int .i64 b0)).put hne 1 (.int .i64 b1)
          go_simp
          refine hK _ _ (hI.out _ hb10) ?_
          clear hK K u0 q0 f0 u1 q1 f1 hs9 hb9
          generalize (Y9.setCell ⟨g9, 0, none⟩ (.int .i64 b0)).setCell ⟨g9, 1, none⟩ (.int .i64 b1) = Y10 at *
          (try simp only [Act.put, List.setIfInBounds_toArray, List.set_cons_zero, List.set_cons_succ])
          show Exit.then _ _ Exit.normal _ _
          go_wp2_with fail
          go_meet
          exact ⟨g8, g9, rfl, rfl, ka, kb, hb10⟩
      · skip
        refine tr_step rfl (by rfl) (fun K hK => ?_)
        have hx := newB Y1 (.cells #[.int .i64 0, .int .i64 0] 23)
        have hs8 := slots_new2r Y1 23
        have hb11 := BT hb1 hx
        have hge8 := hb1.size
        go_simp
        refine hK _ _ (hI.out _ hb11) ?_
        clear hK K hx hb1
        generalize Y1.heap.size = g8 at *
        generalize Y1.alloc (.cells #[.int .i64 0, .int .i64 0] 23) = Y11 at *
        (try simp only [Act.put, List.setIfInBounds_toArray, List.set_cons_zero, List.set_cons_succ])
        refine ⟨?_, ?_⟩
        · skip
          refine tr_step rfl (by rfl) (fun K hK => ?_)
          go_simp
          refine (HCT.out Y11 (HB0.out.trans (hb11.mono HB0.out.size))).mono ?_
          rintro e Y12 ⟨rfl, hx⟩
          have hb12 := BT hb11 hx
          replace hs8 := hs8.below hx hs8.lt2r
          refine hK _ _ (hI.out _ hb12) ?_
          clear hK K hx hb11
          (try simp only [Act.put, List.setIfInBounds_toArray, List.set_cons_zero, List.set_cons_succ])
          refine tr_step rfl (by rfl) (fun K hK => ?_)
          have hx := newB Y12 (.cells #[.int .i64 0, .int .i64 0] 23)
          have hs9 := slots_new2r Y12 23
          have hb13 := BT hb12 hx
          have hge9 := hb12.size
          have hlt8 := hs8.lt2r
          replace hs8 := hs8.below hx hlt8
          go_simp
          refine hK _ _ (hI.out _ hb13) ?_
          clear hK K hx hb12
          generalize Y12.heap.size = g9 at *
          generalize Y12.alloc (.cells #[.int .i64 0, .int .i64 0] 23) = Y13 at *
          (try simp only [Act.put, List.setIfInBounds_toArray, List.set_cons_zero, List.set_cons_succ])
          refine tr_step rfl (by rfl) (fun K hK => ?_)
          have ka := spn2_slots hs8 a0 a1
          have hb14 := BC (BC hb13 g8 0 hge8 (.int .i64 a0)) g8 1 hge8 (.int .i64 a1)
          obtain ⟨u0, q0, f0⟩ := hs8.get 0 (by omega)
          obtain ⟨u1, q1, f1⟩ := hs8.get 1 (by omega)
          have hs9 := (hs9.set ⟨g8, 0, none⟩ (.int .i64 a0)).set ⟨g8, 1, none⟩ (.int .i64 a1)
          have hne : g8 ≠ g9 := by omega
          go_simp
          refine hK _ _ (hI.out _ hb14) ?_
          clear hK K u0 q0 f0 u1 q1 f1 hs8 hb13
          generalize (Y13.setCell ⟨g8, 0, none⟩ (.int .i64 a0)).setCell ⟨g8, 1, none⟩ (.int .i64 a1) = Y14 at *
          (try simp only [Act.put, List.setIfInBounds_toArray, List.set_cons_zero, List.set_cons_succ])
          refine tr_step rfl (by rfl) (fun K hK => ?_)
          have kb := spn2_slots hs9 b0 b1
          have hb15 := BC (BC hb14 g9 0 hge9 (.int .i64 b0)) g9 1 hge9 (.int .i64 b1)
          obtain ⟨u0, q0, f0⟩ := hs9.get 0 (by omega)
          obtain ⟨u1, q1, f1⟩ := hs9.get 1 (by omega)
          have ka := (ka.put hne 0 (.int .i64 b0)).put hne 1 (.int .i64 b1)
          go_simp
          refine hK _ _ (hI.out _ hb15) ?_
          clear hK K u0 q0 f0 u1 q1 f1 hs9 hb14
          generalize (Y14.setCell ⟨g9, 0, none⟩ (.int .i64 b0)).setCell ⟨g9, 1, none⟩ (.int .i64 b1) = Y15 at *
          (try simp only [Act.put, List.setIfInBounds_toArray, List.set_cons_zero, List.set_cons_succ])
          show Exit.then _ _ Exit.normal _ _
          go_wp2_with fail
          go_meet
          exact ⟨g8, g9, rfl, rfl, ka, kb, hb15⟩
        · skip
          refine tr_step rfl (by rfl) (fun K hK => ?_)
          have hx := newB Y11 (.cells #[.int .i64 0, .int .i64 0] 23)
          have hs9 := slots_new2r Y11 23
          have hb16 := BT hb11 hx
          have hge9 := hb11.size
          have hlt8 := hs8.lt2r
          replace hs8 := hs8.below hx hlt8
          go_simp
          refine hK _ _ (hI.out _ hb16) ?_
          clear hK K hx hb11
          generalize Y11.heap.size = g9 at *
          generalize Y11.alloc (.cells #[.int .i64 0, .int .i64 0] 23) = Y16 at *
          (try simp only [Act.put, List.setIfInBounds_toArray, List.set_cons_zero, List.set_cons_succ])
          refine tr_step rfl (by rfl) (fun K hK => ?_)
          go_simp
          refine (HCT.out Y16 (HB0.out.trans (hb16.mono HB0.out.size))).mono ?_
          rintro e Y17 ⟨rfl, hx⟩
          have hb17 := BT hb16 hx
          replace hs8 := hs8.below hx hs8.lt2r
          replace hs9 := hs9.below hx hs9.lt2r
          refine hK _ _ (hI.out _ hb17) ?_
          clear hK K hx hb16
          (try simp only [Act.put, List.setIfInBounds_toArray, List.set_cons_zero, List.set_cons_succ])
          refine tr_step rfl (by rfl) (fun K hK => ?_)
          have ka := spn2_slots hs8 a0 a1
          have hb18 := BC (BC hb17 g8 0 hge8 (.int .i64 a0)) g8 1 hge8 (.int .i64 a1)
          obtain ⟨u0, q0, f0⟩ := hs8.get 0 (by omega)
          obtain ⟨u1, q1, f1⟩ := hs8.get 1 (by omega)
          have hs9 := (hs9.set ⟨g8, 0, none⟩ (.int .i64 a0)).set ⟨g8, 1, none⟩ (.int .i64 a1)
          have hne : g8 ≠ g9 := by omega
          go_simp
          refine hK _ _ (hI.out _ hb18) ?_
          clear hK K u0 q0 f0 u1 q1 f1 hs8 hb17
          generalize (Y17.setCell ⟨g8, 0, none⟩ (.int .i64 a0)).setCell ⟨g8, 1, none⟩ (.int .i64 a1) = Y18 at *
          (try simp only [Act.put, List.setIfInBounds_toArray, List.set_cons_zero, List.set_cons_succ])
          refine tr_step rfl (by rfl) (fun K hK => ?_)
          have kb := spn2_slots hs9 b0 b1
          have hb19 := BC (BC hb18 g9 0 hge9 (.int .i64 b0)) g9 1 hge9 (.int .i64 b1)
          obtain ⟨u0, q0, f0⟩ := hs9.get 0 (by omega)
          obtain ⟨u1, q1, f1⟩ := hs9.get 1 (by omega)
          have ka := (ka.put hne 0 (.int .i64 b0)).put hne 1 (.int .i64 b1)
          go_simp
          refine hK _ _ (hI.out _ hb19) ?_
          clear hK K u0 q0 f0 u1 q1 f1 hs9 hb18
          generalize (Y18.setCell ⟨g9, 0, none⟩ (.int .i64 b0)).setCell ⟨g9, 1, none⟩ (.int .i64 b1) = Y19 at *
          (try simp only [Act.put, List.setIfInBounds_toArray, List.set_cons_zero, List.set_cons_succ])
          show Exit.then _ _ Exit.normal _ _
          go_wp2_with fail
          go_meet
          exact ⟨g8, g9, rfl, rfl, ka, kb, hb19⟩
      · skip
        refine tr_step rfl (by rfl) (fun K hK => ?_)
        have hx := newB Y1 (.cells #[.int .i64 0, .int .i64 0] 23)
        have hs9 := slots_new2r Y1 23
        have hb20 := BT hb1 hx
        have hge9 := hb1.size
        go_simp
        refine hK _ _ (hI.out _ hb20) ?_
        clear hK K hx hb1
        generalize Y1.heap.size = g9 at *
        generalize Y1.alloc (.cells #[.int .i64 0, .int .i64 0] 23) = Y20 at *
        (try simp only [Act.put, List.setIfInBounds_toArray, List.set_cons_zero, List.set_cons_succ])
        refine ⟨?_, ?_⟩
        · skip
          refine tr_step rfl (by rfl) (fun K hK => ?_)
          go_simp
          refine (HCT.out Y20 (HB0.out.trans (hb20.mono HB0.out.size))).mono ?_
          rintro e Y21 ⟨rfl, hx⟩
          have hb21 := BT hb20 hx
          replace hs9 := hs9.below hx hs9.lt2r
          refine hK _ _ (hI.out _ hb21) ?_
          clear hK K hx hb20
          (try simp only [Act.put, List.setIfInBounds_toArray, List.set_cons_zero, List.set_cons_succ])
          refine tr_step rfl (by rfl) (fun K hK => ?_)
          have hx := newB Y21 (.cells #[.int .i64 0, .int .i64 0] 23)
          have hs8 := slots_new2r Y21 23
          have hb22 := BT hb21 hx
          have hge8 := hb21.size
          have hlt9 := hs9.lt2r
          replace hs9 := hs9.below hx hlt9
          go_simp
          refine hK _ _ (hI.out _ hb22) ?_
          clear hK K hx hb21
          generalize Y21.heap.size = g8 at *
          generalize Y21.alloc (.cells #[.int .i64 0, .int .i64 0] 23) = Y22 at *
          (try simp only [Act.put, List.setIfInBounds_toArray, List.set_cons_zero, List.set_cons_succ])
          refine tr_step rfl (by rfl) (fun K hK => ?_)
          have ka := spn2_slots hs8 a0 a1
          have hb23 := BC (BC hb22 g8 0 hge8 (.int .i64 a0)) g8 1 hge8 (.int .i64 a1)
          obtain ⟨u0, q0, f0⟩ := hs8.get 0 (by omega)
          obtain ⟨u1, q1, f1⟩ := hs8.get 1 (by omega)
          have hs9 := (hs9.set ⟨g8, 0, none⟩ (.int .i64 a0)).set ⟨g8, 1, none⟩ (.int .i64 a1)
          have hne : g8 ≠ g9 := by omega
          go_simp
          refine hK _ _ (hI.out _ hb23) ?_
          clear hK K u0 q0 f0 u1 q1 f1 hs8 hb22
          generalize (Y22.setCell ⟨g8, 0, none⟩ (.int .i64 a0)).setCell ⟨g8, 1, none⟩ (.int .i64 a1) = Y23 at *
          (try simp only [Act.put, List.setIfInBounds_toArray, List.set_cons_zero, List.set_cons_succ])
          refine tr_step rfl (by rfl) (fun K hK => ?_)
          have kb := spn2_slots hs9 b0 b1
          have hb24 := BC (BC hb23 g9 0 hge9 (.int .i64 b0)) g9 1 hge9 (.int .i64 b1)
          obtain ⟨u0, q0, f0⟩ := hs9.get 0 (by omega)
          obtain ⟨u1, q1, f1⟩ := hs9.get 1 (by omega)
          have ka := (ka.put hne 0 (.int .i64 b0)).put hne 1 (.int .i64 b1)
          go_simp
          refine hK _ _ (hI.out _ hb24) ?_
          clear hK K u0 q0 f0 u1 q1 f1 hs9 hb23
          generalize (Y23.setCell ⟨g9, 0, none⟩ (.int .i64 b0)).setCell ⟨g9, 1, none⟩ (.int .i64 b1) = Y24 at *
          (try simp only [Act.put, List.setIfInBounds_toArray, List.set_cons_zero, List.set_cons_succ])
          show Exit.then _ _ Exit.normal _ _
          go_wp2_with fail
          go_meet
          exact ⟨g8, g9, rfl, rfl, ka, kb, hb24⟩
        · skip
          refine tr_step rfl (by rfl) (fun K hK => ?_)
          have hx := newB Y20 (.cells #[.int .i64 0, .int .i64 0] 23)
          have hs8 := slots_new2r Y20 23
          have hb25 := BT hb20 hx
          have hge8 := hb20.size
          have hlt9 := hs9.lt2r
          replace hs9 := hs9.below hx hlt9
          go_simp
          refine hK _ _ (hI.out _ hb25) ?_
          clear hK K hx hb20
          generalize Y20.heap.size = g8 at *
          generalize Y20.alloc (.cells #[.int .i64 0, .int .i64 0] 23) = Y25 at *
          (try simp only [Act.put, List.setIfInBounds_toArray, List.set_cons_zero, List.set_cons_succ])
          refine tr_step rfl (by rfl) (fun K hK => ?_)
          go_simp
          refine (HCT.out Y25 (HB0.out.trans (hb25.mono HB0.out.size))).mono ?_
          rintro e Y26 ⟨rfl, hx⟩
          have hb26 := BT hb25 hx
          replace hs9 := hs9.below hx hs9.lt2r
          replace hs8 := hs8.below hx hs8.lt2r
          refine hK _ _ (hI.out _ hb26) ?_
          clear hK K hx hb25
          (try simp only [Act.put, List.setIfInBounds_toArray, List.set_cons_zero, List.set_cons_succ])
          refine tr_step rfl (by rfl) (fun K hK => ?_)
          have ka := spn2_slots hs8 a0 a1
          have hb27 := BC (BC hb26 g8 0 hge8 (.int .i64 a0)) g8 1 hge8 (.int .i64 a1)
          obtain ⟨u0, q0, f0⟩ := hs8.get 0 (by omega)
          obtain ⟨u1, q1, f1⟩ := hs8.get 1 (by omega)
          have hs9 := (hs9.set ⟨g8, 0, none⟩ (.int .i64 a0)).set ⟨g8, 1, none⟩ (.int .i64 a1)
          have hne : g8 ≠ g9 := by omega
          go_simp
          refine hK _ _ (hI.out _ hb27) ?_
          clear hK K u0 q0 f0 u1 q1 f1 hs8 hb26
          generalize (Y26.setCell ⟨g8, 0, none⟩ (.int .i64 a0)).setCell ⟨g8, 1, none⟩ (.int .i64 a1) = Y27 at *
          (try simp only [Act.put, List.setIfInBounds_toArray, List.set_cons_zero, List.set_cons_succ])
          refine tr_step rfl (by rfl) (fun K hK => ?_)
          have kb := spn2_slots hs9 b0 b1
          have hb28 := BC (BC hb27 g9 0 hge9 (.int .i64 b0)) g9 1 hge9 (.int .i64 b1)
          obtain ⟨u0, q0, f0⟩ := hs9.get 0 (by omega)
          obtain ⟨u1, q1, f1⟩ := hs9.get 1 (by omega)
          have ka := (ka.put hne 0 (.int .i64 b0)).put hne 1 (.int .i64 b1)
          go_simp
          refine hK _ _ (hI.out _ hb28) ?_
          clear hK K u0 q0 f0 u1 q1 f1 hs9 hb27
          generalize (Y27.setCell ⟨g9, 0, none⟩ (.int .i64 b0)).setCell ⟨g9, 1, none⟩ (.int .i64 b1) = Y28 at *
          (try simp only [Act.put, List.setIfInBounds_toArray, List.set_cons_zero, List.set_cons_succ])
          show Exit.then _ _ Exit.normal _ _
          go_wp2_with fail
          go_meet
          exact ⟨g8, g9, rfl, rfl, ka, kb, hb28⟩
    · skip
      refine tr_step rfl (by rfl) (fun K hK => ?_)
      have hx := newB Y0 (.cells #[.int .i64 0, .int .i64 0] 23)
      have hs8 := slots_new2r Y0 23
      have hb29 := BT hb0 hx
      have hge8 := hb0.size
      go_simp
      refine hK _ _ (hI.out _ hb29) ?_
      clear hK K hx hb0
      generalize Y0.heap.size = g8 at *
      generalize Y0.alloc (.cells #[.int .i64 0, .int .i64 0] 23) = Y29 at *
      (try simp only [Act.put, List.setIfInBounds_toArray, List.set_cons_zero, List.set_cons_succ])
      refine ⟨?_, ?_⟩
      · skip
        refine tr_step rfl (by rfl) (fun K hK => ?_)
        go_simp
        refine (HCF.out Y29 (HB0.out.trans (hb29.mono HB0.out.size))).mono ?_
        rintro e Y30 ⟨rfl, hx⟩
        have hb30 := BT hb29 hx
        replace hs8 := hs8.below hx hs8.lt2r
        refine hK _ _ (hI.out _ hb30) ?_
        clear hK K hx hb29
        (try simp only [Act.put, List.setIfInBounds_toArray, List.set_cons_zero, List.set_cons_succ])
        refine ⟨?_, ?_⟩
        · skip
          refine tr_step rfl (by rfl) (fun K hK => ?_)
          go_simp
          refine (HCT.out Y30 (HB0.out.trans (hb30.mono HB0.out.size))).mono ?_
          rintro e Y31 ⟨rfl, hx⟩
          have hb31 := BT hb30 hx
          replace hs8 := hs8.below hx hs8.lt2r
          refine hK _ _ (hI.out _ hb31) ?_
          clear hK K hx hb30
          (try simp only [Act.put, List.setIfInBounds_toArray, List.set_cons_zero, List.set_cons_succ])
          refine tr_step rfl (by rfl) (fun K hK => ?_)
          have hx := newB Y31 (.cells #[.int .i64 0, .int .i64 0] 23)
          have hs9 := slots_new2r Y31 23
          have hb32 := BT hb31 hx
          have hge9 := hb31.size
          have hlt8 := hs8.lt2r
          replace hs8 := hs8.below hx hlt8
          go_simp
          refine hK _ _ (hI.out _ hb32) ?_
          clear hK K hx hb31
          generalize Y31.heap.size = g9 at *
          generalize Y31.alloc (.cells #[.int .i64 0, .int .i64 0] 23) = Y32 at *
          (try simp only [Act.put, List.setIfInBounds_toArray, List.set_cons_zero, List.set_cons_succ])
          refine tr_step rfl (by rfl) (fun K hK => ?_)
          have ka := spn2_slots hs8 a0 a1
          have hb33 := BC (BC hb32 g8 0 hge8 (.int .i64 a0)) g8 1 hge8 (.int .i64 a1)
          obtain ⟨u0, q0, f0⟩ := hs8.get 0 (by omega)
          obtain ⟨u1, q1, f1⟩ := hs8.get 1 (by omega)
          have hs9 := (hs9.set ⟨g8, 0, none⟩ (.int .i64 a0)).set ⟨g8, 1, none⟩ (.int .i64 a1)
          have hne : g8 ≠ g9 := by omega
          go_simp
          refine hK _ _ (hI.out _ hb33) ?_
          clear hK K u0 q0 f0 u1 q1 f1 hs8 hb32
          generalize (Y32.setCell ⟨g8, 0, none⟩ (.int .i64 a0)).setCell ⟨g8, 1, none⟩ (.int .i64 a1) = Y33 at *
          (try simp only [Act.put, List.setIfInBounds_toArray, List.set_cons_zero, List.set_cons_succ])
          refine tr_step rfl (by rfl) (fun K hK => ?_)
          have kb := spn2_slots hs9 b0 b1
          have hb34 := BC (BC hb33 g9 0 hge9 (.int .i64 b0)) g9 1 hge9 (.int .i64 b1)
          obtain ⟨u0, q0, f0⟩ := hs9.get 0 (by omega)
          obtain ⟨u1, q1, f1⟩ := hs9.get 1 (by omega)
          have ka := (ka.put hne 0 (.int .i64 b0)).put hne 1 (.int .i64 b1)
          go_simp
          refine hK _ _ (hI.out _ hb34) ?_
          clear hK K u0 q0 f0 u1 q1 f1 hs9 hb33
          generalize (Y33.setCell ⟨g9, 0, none⟩ (.int .i64 b0)).setCell ⟨g9, 1, none⟩ (.int .i64 b1) = Y34 at *
          (try simp only [Act.put, List.setIfInBounds_toArray, List.set_cons_zero, List.set_cons_succ])
          show Exit.then _ _ Exit.normal _ _
          go_wp2_with fail
          go_meet
          exact ⟨g8, g9, rfl, rfl, ka, kb, hb34⟩
        · skip
          refine tr_step rfl (by rfl) (fun K hK => ?_)
          have hx := newB Y30 (.cells #[.int .i64 0, .int .i64 0] 23)
          have hs9 := slots_new2r Y30 23
          have hb35 := BT hb30 hx
          have hge9 := hb30.size
          have hlt8 := hs8.lt2r
          replace hs8 := hs8.below hx hlt8
          go_simp
          refine hK _ _ (hI.out _ hb35) ?_
          clear hK K hx hb30
          generalize Y30.heap.size = g9 at *
          generalize Y30.alloc (.cells #[.int .i64 0, .int .i64 0] 23) = Y35 at *
          (try simp only [Act.put, List.setIfInBounds_toArray, List.set_cons_zero, List.set_cons_succ])
          refine tr_step rfl (by rfl) (fun K hK => ?_)
          go_simp
          refine (HCT.out Y35 (HB0.out.trans (hb35.mono HB0.out.size))).mono ?_
          rintro e Y36 ⟨rfl, hx⟩
          have hb36 := BT hb35 hx
          replace hs8 := hs8.below hx hs8.lt2r
          replace hs9 := hs9.below hx hs9.lt2r
          refine hK _ _ (hI.out _ hb36) ?_
          clear hK K hx hb35
          (try simp only [Act.put, List.setIfInBounds_toArray, List.set_cons_zero, List.set_cons_succ])
          refine tr_step rfl (by rfl) (fun K hK => ?_)
          have ka := spn2_slots hs8 a0 a1
          have hb37 := BC (BC hb36 g8 0 hge8 (.int .i64 a0)) g8 1 hge8 (.int .i64 a1)
          obtain ⟨u0, q0, f0⟩ := hs8.get 0 (by omega)
          obtain ⟨u1, q1, f1⟩ := hs8.get 1 (by omega)
          have hs9 := (hs9.set ⟨g8, 0, none⟩ (.int .i64 a0)).set ⟨g8, 1, none⟩ (.int .i64 a1)
          have hne : g8 ≠ g9 := by omega
          go_simp
          refine hK _ _ (hI.out _ hb37) ?_
          clear hK K u0 q0 f0 u1 q1 f1 hs8 hb36
          generalize (Y36.setCell ⟨g8, 0, none⟩ (.int .i64 a0)).setCell ⟨g8, 1, none⟩ (.int .i64 a1) = Y37 at *
          (try simp only [Act.put, List.setIfInBounds_toArray, List.set_cons_zero, List.set_cons_succ])
          refine tr_step rfl (by rfl) (fun K hK => ?_)
          have kb := spn2_slots hs9 b0 b1
          have hb38 := BC (BC hb37 g9 0 hge9 (.int .i64 b0)) g9 1 hge9 (.int .i64 b1)
          obtain ⟨u0, q0, f0⟩ := hs9.get 0 (by omega)
          obtain ⟨u1, q1, f1⟩ := hs9.get 1 (by omega)
          have ka := (ka.put hne 0 (.int .i64 b0)).put hne 1 (.int .i64 b1)
          go_simp
          refine hK _ _ (hI.out _ hb38) ?_
          clear hK K u0 q0 f0 u1 q1 f1 hs9 hb37
          generalize (Y37.setCell ⟨g9, 0, none⟩ (.int .i64 b0)).setCell ⟨g9, 1, none⟩ (.int .i64 b1) = Y38 at *
          (try simp only [Act.put, List.setIfInBounds_toArray, List.set_cons_zero, List.set_cons_succ])
          show Exit.then _ _ Exit.normal _ _
          go_wp2_with fail
          go_meet
          exact ⟨g8, g9, rfl, rfl, ka, kb, hb38⟩
      · skip
        refine tr_step rfl (by rfl) (fun K hK => ?_)
        have hx := newB Y29 (.cells #[.int .i64 0, .int .i64 0] 23)
        have hs9 := slots_new2r Y29 23
        have hb39 := BT hb29 hx
        have hge9 := hb29.size
        have hlt8 := hs8.lt2r
        replace hs8 := hs8.below hx hlt8
        go_simp
        refine hK _ _ (hI.out _ hb39) ?_
        clear hK K hx hb29
        generalize Y29.heap.size = g9 at *
        generalize Y29.alloc (.cells #[.int .i64 0, .int .i64 0] 23) = Y39 at *
        (try simp only [Act.put, List.setIfInBounds_toArray, List.set_cons_zero, List.set_cons_succ])
        refine tr_step rfl (by rfl) (fun K hK => ?_)
        go_simp
        refine (HCF.out Y39 (HB0.out.trans (hb39.mono HB0.out.size))).mono ?_
        rintro e Y40 ⟨rfl, hx⟩
        have hb40 := BT hb39 hx
        replace hs8 := hs8.below hx hs8.lt2r
        replace hs9 := hs9.below hx hs9.lt2r
        refine hK _ _ (hI.out _ hb40) ?_
        clear hK K hx hb39
        (try simp only [Act.put, List.setIfInBounds_toArray, List.set_cons_zero, List.set_cons_succ])
        refine tr_step rfl (by rfl) (fun K hK => ?_)
        go_simp
        refine (HCT.out Y40 (HB0.out.trans (hb40.mono HB0.out.size))).mono ?_
        rintro e Y41 ⟨rfl, hx⟩
        have hb41 := BT hb40 hx
        replace hs8 := hs8.below hx hs8.lt2r
        replace hs9 := hs9.below hx hs9.lt2r
        refine hK _ _ (hI.out _ hb41) ?_
        clear hK K hx hb40
        (try simp only [Act.put, List.setIfInBounds_toArray, List.set_cons_zero, List.set_cons_succ])
        refine tr_step rfl (by rfl) (fun K hK => ?_)
        have ka := spn2_slots hs8 a0 a1
        have hb42 := BC (BC hb41 g8 0 hge8 (.int .i64 a0)) g8 1 hge8 (.int .i64 a1)
        obtain ⟨u0, q0, f0⟩ := hs8.get 0 (by omega)
        obtain ⟨u1, q1, f1⟩ := hs8.get 1 (by omega)
        have hs9 := (hs9.set ⟨g8, 0, none⟩ (.int .i64 a0)).set ⟨g8, 1, none⟩ (.int .i64 a1)
        have hne : g8 ≠ g9 := by omega
        go_simp
        refine hK _ _ (hI.out _ hb42) ?_
        clear hK K u0 q0 f0 u1 q1 f1 hs8 hb41
        generalize (Y41.setCell ⟨g8, 0, none⟩ (.int .i64 a0)).setCell ⟨g8, 1, none⟩ (.int .i64 a1) = Y42 at *
        (try simp only [Act.put, List.setIfInBounds_toArray, List.set_cons_zero, List.set_cons_succ])
        refine tr_step rfl (by rfl) (fun K hK => ?_)
        have kb := spn2_slots hs9 b0 b1
        have hb43 := BC (BC hb42 g9 0 hge9 (.int .i64 b0)) g9 1 hge9 (.int .i64 b1)
        obtain ⟨u0, q0, f0⟩ := hs9.get 0 (by omega)
        obtain ⟨u1, q1, f1⟩ := hs9.get 1 (by omega)
        have ka := (ka.put hne 0 (.int .i64 b0)).put hne 1 (.int .i64 b1)
        go_simp
        refine hK _ _ (hI.out _ hb43) ?_
        clear hK K u0 q0 f0 u1 q1 f1 hs9 hb42
        generalize (Y42.setCell ⟨g9, 0, none⟩ (.int .i64 b0)).setCell ⟨g9, 1, none⟩ (.int .i64 b1) = Y43 at *
        (try simp only [Act.put, List.setIfInBounds_toArray, List.set_cons_zero, List.set_cons_succ])
        show Exit.then _ _ Exit.normal _ _
        go_wp2_with fail
        go_meet
        exact ⟨g8, g9, rfl, rfl, ka, kb, hb43⟩
    · skip
      refine tr_step rfl (by rfl) (fun K hK => ?_)
      have hx := newB Y0 (.cells #[.int .i64 0, .int .i64 0] 23)
      have hs9 := slots_new2r Y0 23
      have hb44 := BT hb0 hx
      have hge9 := hb0.size
      go_simp
      refine hK _ _ (hI.out _ hb44) ?_
      clear hK K hx hb0
      generalize Y0.heap.size = g9 at *
      generalize Y0.alloc (.cells #[.int .i64 0, .int .i64 0] 23) = Y44 at *
      (try simp only [Act.put, List.setIfInBounds_toArray, List.set_cons_zero, List.set_cons_succ])
      refine ⟨?_, ?_⟩
      · skip
        refine tr_step rfl (by rfl) (fun K hK => ?_)
        go_simp
        refine (HCF.out Y44 (HB0.out.trans (hb44.mono HB0.out.size))).mono ?_
        rintro e Y45 ⟨rfl, hx⟩
        have hb45 := BT hb44 hx
        replace hs9 := hs9.below hx hs9.lt2r
        refine hK _ _ (hI.out _ hb45) ?_
        clear hK K hx hb44
        (try simp only [Act.put, List.setIfInBounds_toArray, List.set_cons_zero, List.set_cons_succ])
        refine ⟨?_, ?_⟩
        · skip
          refine tr_step rfl (by rfl) (fun K hK => ?_)
          go_simp
          refine (HCT.out Y45 (HB0.out.trans (hb45.mono HB0.out.size))).mono ?_
          rintro e Y46 ⟨rfl, hx⟩
          have hb46 := BT hb45 hx
          replace hs9 := hs9.below hx hs9.lt2r
          refine hK _ _ (hI.out _ hb46) ?_
          clear hK K hx hb45
          (try simp only [Act.put, List.setIfInBounds_toArray, List.set_cons_zero, List.set_cons_succ])
          refine tr_step rfl (by rfl) (fun K hK => ?_)
          have hx := newB Y46 (.cells #[.int .i64 0, .int .i64 0] 23)
          have hs8 := slots_new2r Y46 23
          have hb47 := BT hb46 hx
          have hge8 := hb46.size
          have hlt9 := hs9.lt2r
          replace hs9 := hs9.below hx hlt9
          go_simp
          refine hK _ _ (hI.out _ hb47) ?_
          clear hK K hx hb46
          generalize Y46.heap.size = g8 at *
          generalize Y46.alloc (.cells #[.int .i64 0, .int .i64 0] 23) = Y47 at *
          (try simp only [Act.put, List.setIfInBounds_toArray, List.set_cons_zero, List.set_cons_succ])
          refine tr_step rfl (by rfl) (fun K hK => ?_)
          have ka := spn2_slots hs8 a0 a1
          have hb48 := BC (BC hb47 g8 0 hge8 (.int .i64 a0)) g8 1 hge8 (.int .i64 a1)
          obtain ⟨u0, q0, f0⟩ := hs8.get 0 (by omega)
          obtain ⟨u1, q1, f1⟩ := hs8.get 1 (by omega)
          have hs9 := (hs9.set ⟨g8, 0, none⟩ (.int .i64 a0)).set ⟨g8, 1, none⟩ (.int .i64 a1)
          have hne : g8 ≠ g9 := by omega
          go_simp
          refine hK _ _ (hI.out _ hb48) ?_
          clear hK K u0 q0 f0 u1 q1 f1 hs8 hb47
          generalize (Y47.setCell ⟨g8, 0, none⟩ (.int .i64 a0)).setCell ⟨g8, 1, none⟩ (.int .i64 a1) = Y48 at *
          (try simp only [Act.put, List.setIfInBounds_toArray, List.set_cons_zero, List.set_cons_succ])
          refine tr_step rfl (by rfl) (fun K hK => ?_)
          have kb := spn2_slots hs9 b0 b1
          have hb49 := BC (BC hb48 g9 0 hge9 (.int .i64 b0)) g9 1 hge9 (.int .i64 b1)
          obtain ⟨u0, q0, f0⟩ := hs9.get 0 (by omega)
          obtain ⟨u1, q1, f1⟩ := hs9.get 1 (by omega)
          have ka := (ka.put hne 0 (.int .i64 b0)).put hne 1 (.int .i64 b1)
          go_simp
          refine hK _ _ (hI.out _ hb49) ?_
          clear hK K u0 q0 f0 u1 q1 f1 hs9 hb48
          generalize (Y48.setCell ⟨g9, 0, none⟩ (.int .i64 b0)).setCell ⟨g9, 1, none⟩ (.int .i64 b1) = Y49 at *
          (try simp only [Act.put, List.setIfInBounds_toArray, List.set_cons_zero, List.set_cons_succ])
          show Exit.then _ _ Exit.normal _ _
          go_wp2_with fail
          go_meet
          exact ⟨g8, g9, rfl, rfl, ka, kb, hb49⟩
        · skip
          refine tr_step rfl (by rfl) (fun K hK => ?_)
          have hx := newB Y45 (.cells #[.int .i64 0, .int .i64 0] 23)
          have hs8 := slots_new2r Y45 23
          have hb50 := BT hb45 hx
          have hge8 := hb45.size
          have hlt9 := hs9.lt2r
          replace hs9 := hs9.below hx hlt9
          go_simp
          refine hK _ _ (hI.out _ hb50) ?_
          clear hK K hx hb45
          generalize Y45.heap.size = g8 at *
          generalize Y45.alloc (.cells #[.int .i64 0, .int .i64 0] 23) = Y50 at *
          (try simp only [Act.put, List.setIfInBounds_toArray, List.set_cons_zero, List.set_cons_succ])
          refine tr_step rfl (by rfl) (fun K hK => ?_)
          go_simp
          refine (HCT.out Y50 (HB0.out.trans (hb50.mono HB0.out.size))).mono ?_
          rintro e Y51 ⟨rfl, hx⟩
          have hb51 := BT hb50 hx
          replace hs9 := hs9.below hx hs9.lt2r
          replace hs8 := hs8.below hx hs8.lt2r
          refine hK _ _ (hI.out _ hb51) ?_
          clear hK K hx hb50
          (try simp only [Act.put, List.setIfInBounds_toArray, List.set_cons_zero, List.set_cons_succ])
          refine tr_step rfl (by rfl) (fun K hK => ?_)
          have ka := spn2_slots hs8 a0 a1
          have hb52 := BC (BC hb51 g8 0 hge8 (.int .i64 a0)) g8 1 hge8 (.int .i64 a1)
          obtain ⟨u0, q0, f0⟩ := hs8.get 0 (by omega)
          obtain ⟨u1, q1, f1⟩ := hs8.get 1 (by omega)
          have hs9 := (hs9.set ⟨g8, 0, none⟩ (.int .i64 a0)).set ⟨g8, 1, none⟩ (.int .i64 a1)
          have hne : g8 ≠ g9 := by omega
          go_simp
          refine hK _ _ (hI.out _ hb52) ?_
          clear hK K u0 q0 f0 u1 q1 f1 hs8 hb51
          generalize (Y51.setCell ⟨g8, 0, none⟩ (.int .i64 a0)).setCell ⟨g8, 1, none⟩ (.int .i64 a1) = Y52 at *
          (try simp only [Act.put, List.setIfInBounds_toArray, List.set_cons_zero, List.set_cons_succ])
          refine tr_step rfl (by rfl) (fun K hK => ?_)
          have kb := spn2_slots hs9 b0 b1
          have hb53 := BC (BC hb52 g9 0 hge9 (.int .i64 b0)) g9 1 hge9 (.int .i64 b1)
          obtain ⟨u0, q0, f0⟩ := hs9.get 0 (by omega)
          obtain ⟨u1, q1, f1⟩ := hs9.get 1 (by omega)
          have ka := (ka.put hne 0 (.int .i64 b0)).put hne 1 (.int .i64 b1)
          go_simp
          refine hK _ _ (hI.out _ hb53) ?_
          clear hK K u0 q0 f0 u1 q1 f1 hs9 hb52
          generalize (Y52.setCell ⟨g9, 0, none⟩ (.int .i64 b0)).setCell ⟨g9, 1, none⟩ (.int .i64 b1) = Y53 at *
          (try simp only [Act.put, List.setIfInBounds_toArray, List.set_cons_zero, List.set_cons_succ])
          show Exit.then _ _ Exit.normal _ _
          go_wp2_with fail
          go_meet
          exact ⟨g8, g9, rfl, rfl, ka, kb, hb53⟩
      · skip
        refine tr_step rfl (by rfl) (fun K hK => ?_)
        have hx := newB Y44 (.cells #[.int .i64 0, .int .i64 0] 23)
        have hs8 := slots_new2r Y44 23
        have hb54 := BT hb44 hx
        have hge8 := hb44.size
        have hlt9 := hs9.lt2r
        replace hs9 := hs9.below hx hlt9
        go_simp
        refine hK _ _ (hI.out _ hb54) ?_
        clear hK K hx hb44
        generalize Y44.heap.size = g8 at *
        generalize Y44.alloc (.cells #[.int .i64 0, .int .i64 0] 23) = Y54 at *
        (try simp only [Act.put, List.setIfInBounds_toArray, List.set_cons_zero, List.set_cons_succ])
        refine tr_step rfl (by rfl) (fun K hK => ?_)
        go_simp
        refine (HCF.out Y54 (HB0.out.trans (hb54.mono HB0.out.size))).mono ?_
        rintro e Y55 ⟨rfl, hx⟩
        have hb55 := BT hb54 hx
        replace hs9 := hs9.below hx hs9.lt2r
        replace hs8 := hs8.below hx hs8.lt2r
        refine hK _ _ (hI.out _ hb55) ?_
        clear hK K hx hb54
        (try simp only [Act.put, List.setIfInBounds_toArray, List.set_cons_zero, List.set_cons_succ])
        refine tr_step rfl (by rfl) (fun K hK => ?_)
        go_simp
        refine (HCT.out Y55 (HB0.out.trans (hb55.mono HB0.out.size))).mono ?_
        rintro e Y56 ⟨rfl, hx⟩
        have hb56 := BT hb55 hx
        replace hs9 := hs9.below hx hs9.lt2r
        replace hs8 := hs8.below hx hs8.lt2r
        refine hK _ _ (hI.out _ hb56) ?_
        clear hK K hx hb55
        (try simp only [Act.put, List.setIfInBounds_toArray, List.set_cons_zero, List.set_cons_succ])
        refine tr_step rfl (by rfl) (fun K hK => ?_)
        have ka := spn2_slots hs8 a0 a1
        have hb57 := BC (BC hb56 g8 0 hge8 (.int .i64 a0)) g8 1 hge8 (.int .i64 a1)
        obtain ⟨u0, q0, f0⟩ := hs8.get 0 (by omega)
        obtain ⟨u1, q1, f1⟩ := hs8.get 1 (by omega)
        have hs9 := (hs9.set ⟨g8, 0, none⟩ (.int .i64 a0)).set ⟨g8, 1, none⟩ (.int .i64 a1)
        have hne : g8 ≠ g9 := by omega
        go_simp
        refine hK _ _ (hI.out _ hb57) ?_
        clear hK K u0 q0 f0 u1 q1 f1 hs8 hb56
        generalize (Y56.setCell ⟨g8, 0, none⟩ (.int .i64 a0)).setCell ⟨g8, 1, none⟩ (.int .i64 a1) = Y57 at *
        (try simp only [Act.put, List.setIfInBounds_toArray, List.set_cons_zero, List.set_cons_succ])
        refine tr_step rfl (by rfl) (fun K hK => ?_)
        have kb := spn2_slots hs9 b0 b1
        have hb58 := BC (BC hb57 g9 0 hge9 (.int .i64 b0)) g9 1 hge9 (.int .i64 b1)
        obtain ⟨u0, q0, f0⟩ := hs9.get 0 (by omega)
        obtain ⟨u1, q1, f1⟩ := hs9.get 1 (by omega)
        have ka := (ka.put hne 0 (.int .i64 b0)).put hne 1 (.int .i64 b1)
        go_simp
        refine hK _ _ (hI.out _ hb58) ?_
        clear hK K u0 q0 f0 u1 q1 f1 hs9 hb57
        generalize (Y57.setCell ⟨g9, 0, none⟩ (.int .i64 b0)).setCell ⟨g9, 1, none⟩ (.int .i64 b1) = Y58 at *
        (try simp only [Act.put, List.setIfInBounds_toArray, List.set_cons_zero, List.set_cons_succ])
        show Exit.then _ _ Exit.normal _ _
        go_wp2_with fail
        go_meet
        exact ⟨g8, g9, rfl, rfl, ka, kb, hb58⟩
  case rest =>
    obtain ⟨P, R, rfl, rfl, ka, kb, hb⟩ := hcut
    obtain ⟨X1, rfl⟩ : ∃ X1 : World, X1 = wc := ⟨_, rfl⟩
    have hfin := BT HB0.out hb
    obtain ⟨q0, q1, -, -⟩ := ka
    obtain ⟨r0, r1, -, -⟩ := kb
    clear hI HCF HCT HB0
    by_cases hab : a0 ≤ a1
    · go_wp2_with fail
      go_ret
      exact ⟨by simp [hab], hfin⟩
    · go_wp2_with fail
      go_ret
      exact ⟨by simp; omega, hfin⟩
end Go.Proofs.YtdkegkacpdkjgaaGreat

namespace Go.Proofs.YtdkegkacpdkjgaaGreat
open Go.RowKit

/-- Scales that can be, from lo on. -/
def scTo (B : Int → Bool) (lo : Int) : Nat → List Int
  | 0 => []
  | k + 1 => if B (lo + k) then scTo B lo k ++ [lo + k] else scTo B lo k
theorem scTo_len (B : Int → Bool) (lo : Int) : ∀ k, (scTo B lo k).length ≤ k
  | 0 => Nat.le_refl _
  | k + 1 => by
    have := scTo_len B lo k
    unfold scTo
    split
    · rw [List.length_append, List.length_singleton]; omega
    · omega
def iv (n : Int) : Value := .int .i64 n
/-- Numbers in memory. -/
def IntsIn (X : World) (a : Option Addr) (L : List Int) : Prop := L = [] ∨ ∃ g, a = some ⟨g, 0, none⟩ ∧ g < X.heap.size ∧ ∀ k, k < L.length → X.cell? ⟨g, k, none⟩ = some (.int .i64 (L.getD k 0))
theorem IntsIn.below {X X' : World} {a : Option Addr} {L : List Int} (h : IntsIn X a L) (hb : Below X.heap.size X X') : IntsIn X' a L :=
  h.elim .inl fun ⟨g, h1, h2, h3⟩ => .inr ⟨g, h1, Nat.lt_of_lt_of_le h2 hb.size, fun k hk => cellB (h3 k hk) hb⟩
theorem ints_of_row {X : World} {M : Nat} {v : Value} {L : List Int} (h : X.ownsRow M 3 1 v L.length (L.map iv)) : ∃ a cap, v = .slice a L.length cap ∧ IntsIn X a L := by
  rcases h.2 with ⟨h1, h2⟩ | ⟨g, cap, cur, h1, _⟩
  · exact ⟨none, 0, by rw [h1, h2], .inl (List.eq_nil_of_length_eq_zero h2)⟩
  · subst h1
    refine ⟨_, cap, rfl, .inr ⟨g, rfl, (h.lt g rfl).2, fun k hk => ?_⟩⟩
    rw [h.cellAt _ (by omega)]
    simp [iv, List.getD, hk]
def ScOut (L : List Int) (w : World) (e : Ending) (w' : World) : Prop := ∃ a cap, e = .returned (.slice a L.length cap) ∧ IntsIn w' a L ∧ Below w.heap.size w w'
theorem infoI : (Tryz.prog.info? 3).map (fun i => (i.zero, i.size, i.bytes)) = some (some (.int .i64 0), 1, 8) := by kernel_rfl
theorem info_int : ∃ i, Tryz.prog.info? 3 = some i ∧ i.zero = some (.int .i64 0) ∧ i.size = 1 ∧ i.bytes = 8 := by
  have h := infoI
  cases h1 : Tryz.prog.info? 3 with
  | none => rw [h1] at h; cases h
  | some i =>
    rw [h1] at h
    simp only [Option.map_some, Option.some.injEq, Prod.mk.injEq] at h
    exact ⟨i, rfl, h.1, h.2.1, h.2.2⟩
set_option maxRecDepth 100000 in
set_option maxHeartbeats 4000000 in
theorem scalesRR_any (p : Pl) (ss : List St) (v : Nat) (w : World) (hm : PlAt p ss w) (ok : CrOk p ss v) (h0 : 1 ≤ p.lo) (hlh : p.lo ≤ p.hi) (h1 : p.hi ≤ 1000) :
    Calls Tryz.prog 75 #[p.val, .int .i64 (v : Int)] w (ScOut (scTo (fun sc => crB ss sc v.testBit p.n) p.lo (p.hi + 1 - p.lo).toNat) w) := by
  have HW : Hid (∀ sc Y, Below w.heap.size w Y → 0 ≤ sc → sc ≤ 1000 → Calls Tryz.prog 122 #[.agg #[.int .i64 p.lo, .int .i64 p.hi, .slice p.a p.n p.cap], .int .i64 (v : Int), .int .i64 sc] Y (Ret (.bool (crB ss sc v.testBit p.n)) Y)) := fun sc Y hY a b => with_any p ss v sc Y (hm.below hY (Nat.le_refl _)) ok a b
  clear hm ok
  obtain ⟨B, hB⟩ : ∃ B : Int → Bool, (fun sc => crB ss sc v.testBit p.n) = B := ⟨_, rfl⟩
  have HW2 : Hid (∀ sc Y, Below w.heap.size w Y → 0 ≤ sc → sc ≤ 1000 → Calls Tryz.prog 122 #[.agg #[.int .i64 p.lo, .int .i64 p.hi, .slice p.a p.n p.cap], .int .i64 (v : Int), .int .i64 sc] Y (Ret (.bool (B sc)) Y)) := fun sc Y hY a b => by
    rw [← hB]; exact HW.out sc Y hY a b
  rw [hB]
  clear hB HW
  obtain ⟨N, hN⟩ : ∃ N : Nat, (p.hi + 1 - p.lo).toNat = N := ⟨_, rfl⟩
  have hNb : N ≤ 1000 := by omega
  have hNi : p.lo + (N : Int) = p.hi + 1 := by omega
  rw [hN]
  clear hN
  have HL := Lib.hid (scTo_len B p.lo)
  have HS : Hid (∀ k, scTo B p.lo (k + 1) = if B (p.lo + k) then scTo B p.lo k ++ [p.lo + k] else scTo B p.lo k) := fun _ => rfl
  have HZ : Hid (scTo B p.lo 0 = []) := rfl
  unfold Pl.val
  obtain ⟨W0, hW0⟩ : ∃ X, w.alloc (.cells #[.int .i64 p.lo, .int .i64 p.hi, .slice p.a p.n p.cap] 26) = X := ⟨_, rfl⟩
  have hB0 : Below w.heap.size w W0 := by rw [← hW0]; exact newB _ _
  have hQ : BoxP W0 w.heap.size p := by rw [← hW0]; exact boxP_new w p _
  have HB0 := Lib.hid hB0
  have HQ := Lib.hid hQ
  obtain ⟨b0, b1, b2⟩ := id hQ
  clear hQ hB0
  obtain ⟨i3, j3, z3, s3, c3⟩ := info_int
  have I3 := Lib.hid (And.intro j3 (And.intro z3 (And.intro s3 c3)))
  clear j3 z3 s3 c3
  generalize scTo B p.lo = T at *
  go_enter Tryz.func75, Tryz.ntmps75
  go_upto_region 3 with fail
  clear hW0 b0 b1 b2
  go_loopw [5, 6] (fun va i wz => ∃ k : Nat, k ≤ N ∧ i = .int .i64 (p.lo + k) ∧ wz.ownsRow W0.heap.size 3 1 va (T k).length ((T k).map iv) ∧ Below W0.heap.size W0 wz) (fun _ i _ => (p.hi + 1 - intOf i).toNat)
  case atStart => exact ⟨0, by omega, by simp, by rw [HZ.out]; exact World.ownsRow_nil _ _ _ _, Below.refl _ _⟩
  case round =>
    obtain ⟨k, hk, rfl, hr, hB⟩ := hrel
    obtain ⟨wo, rfl⟩ : ∃ wo : World, wo = wr := ⟨_, rfl⟩
    obtain ⟨b0, b1, b2⟩ := HQ.out.grown hB
    have hlk := HL.out k
    by_cases hlt : k < N
    · obtain ⟨sc, hsc⟩ : ∃ sc, p.lo + (k : Int) = sc := ⟨_, rfl⟩
      have hs0 : 0 ≤ sc ∧ sc ≤ p.hi ∧ sc ≤ 1000 := by omega
      obtain ⟨hs0, hs1, hs2⟩ := hs0
      have hst := HS.out k
      rw [hsc] at hst ⊢
      have hnx : p.lo + ((k + 1 : Nat) : Int) = sc + 1 := by omega
      have HNX := Lib.hid hnx
      clear hnx
      go_wp2_with fail
      clear b0 b1 b2
      refine (HW2.out sc wo (BT HB0.out hB) hs0 hs2).mono ?_
      rintro e Y1 ⟨rfl, hx⟩
      have hB := BT hB hx
      replace hr := hr.kept (row := none) ⟨hx.os, hx.tape, hx.output, hx.size, fun i hi _ => hx.block i hi⟩ (by cases h : u5.ownBlock <;> simp)
      clear hx
      cases hb : B sc
      · rw [hb] at hst
        simp only [Bool.false_eq_true, if_false] at hst
        have HC := Lib.hid hst
        clear hst hb hsc
        go_wp2_with fail
        go_roundw
        case rel => exact ⟨k + 1, by omega, by rw [HNX.out], by rw [HC.out]; exact hr, hB⟩
        case measure => simp [intOf]; omega
      · rw [hb] at hst
        simp only [if_true] at hst
        have HC := Lib.hid hst
        clear hst hb hsc
        have hx := newB Y1 (.cells #[.int .i64 sc] 3)
        have hnw : ∀ j u, [Value.int .i64 sc][j]? = some u → (Y1.alloc (.cells #[.int .i64 sc] 3)).cell? ((⟨Y1.heap.size, 0, none⟩ : Addr).add j) = some u := World.news_of_block (heap_alloc_new Y1 _)
        have hB := BT hB hx
        replace hr := hr.kept (row := none) ⟨hx.os, hx.tape, hx.output, hx.size, fun i hi _ => hx.block i hi⟩ (by cases h : u5.ownBlock <;> simp)
        have HR := Lib.hid hr
        have HB := Lib.hid hB
        have HNW := Lib.hid hnw
        obtain ⟨j3, z3, s3, c3⟩ := I3.out
        clear hr hB hnw hx
        go_wp2_with (at_builtin; refine wpList_append_lies _ rfl _ _ 51 rfl W0.heap.size 3 i3 (.int .i64 0) 1 8 Tryz.underlying51 j3 z3 s3 c3 rfl (by decide) _ _ _ rfl HR.out ⟨Y1.heap.size, 0, none⟩ 1 1 [.int .i64 sc] rfl rfl HNW.out ?c2 (by decide) ?c3 ?c4 HB.out.size _ rfl ?_)
        case c2 => intro u hu; simp at hu; subst hu; rfl
        case c3 => unfold maxLen; omega
        case c4 => omega
        intro g cap w2 hrow hgr _ _
        have hB2 : Below W0.heap.size W0 w2 := HB.out.grown hgr HB.out.size (fun q hq => (HR.out.lt q hq).1)
        have hrow2 : w2.ownsRow W0.heap.size 3 1 (.slice (some ⟨g, 0, none⟩) ((T k).length + 1) cap) (T (k + 1)).length ((T (k + 1)).map iv) := by
          rw [HC.out, List.length_append, List.map_append]; exact hrow
        have HR2 := Lib.hid hrow2
        clear hrow hgr HR HB HNW hrow2 j3 z3 s3 c3
        go_wp2_with fail
        go_roundw
        case rel => exact ⟨k + 1, by omega, by rw [HNX.out], HR2.out, hB2⟩
        case measure => simp [intOf]; omega
    · obtain rfl : k = N := by omega
      have hno : ¬ p.lo + (k : Int) ≤ p.hi := by omega
      obtain ⟨a, cap, rfl, hI⟩ := ints_of_row hr
      have HI := Lib.hid hI
      clear hr hI hNi
      go_wp2_with fail
      go_ret
      exact ⟨a, cap, rfl, HI.out, BT HB0.out hB⟩
end Go.Proofs.YtdkegkacpdkjgaaGreat

namespace Go.Proofs.YtdkegkacpdkjgaaGreat
open Go.RowKit

/-- The known stars, as a set. -/
structure KnO (p : Pl) (ss : List St) (a : Nat) : Prop where
  e : knownTo ss p.n = (a : Int)
  ok : CrOk p ss a
  lo : 1 ≤ p.lo
  lh : p.lo ≤ p.hi
  hi : p.hi ≤ 1000
def scL (p : Pl) (ss : List St) (a : Nat) : List Int := scTo (fun sc => crB ss sc a.testBit p.n) p.lo (p.hi + 1 - p.lo).toNat
def openR (p : Pl) (ss : List St) (a : Nat) (valid : Bool) : Except Int (List Int) := if plB p ss then (if valid then (if scL p ss a = [] then .error 10 else .ok (scL p ss a)) else .error 2) else .error 1
def OpO : Except Int (List Int) → World → Ending → World → Prop
  | .error c, w, e, w' => e = .returned (.tuple #[.slice none 0 0, .int .i64 c]) ∧ Below w.heap.size w w'
  | .ok L, w, e, w' => ∃ a cap, e = .returned (.tuple #[.slice a L.length cap, .int .i64 0]) ∧ IntsIn w' a L ∧ Below w.heap.size w w'
set_option maxRecDepth 100000 in
set_option maxHeartbeats 4000000 in
theorem open_any (p : Pl) (ss : List St) (a : Nat) (valid : Bool) (w : World) (hm : PlAt p ss w) (hk : plB p ss = true → KnO p ss a) :
    Calls Tryz.prog 39 #[p.val, .bool valid] w (OpO (openR p ss a valid) w) := by
  have HP : Hid (∀ Y, Below w.heap.size w Y → Calls Tryz.prog 16 #[.agg #[.int .i64 p.lo, .int .i64 p.hi, .slice p.a p.n p.cap]] Y (Ret (.bool (plB p ss)) Y)) := fun Y hY => plateR_any p ss Y (hm.below hY (Nat.le_refl _))
  unfold openR
  obtain ⟨W0, hW0⟩ : ∃ X, w.alloc (.cells #[.int .i64 p.lo, .int .i64 p.hi, .slice p.a p.n p.cap] 26) = X := ⟨_, rfl⟩
  have hB0 : Below w.heap.size w W0 := by rw [← hW0]; exact newB _ _
  have hQ : BoxP W0 w.heap.size p := by rw [← hW0]; exact boxP_new w p _
  have HB0 := Lib.hid hB0
  have HQ := Lib.hid hQ
  obtain ⟨b0, b1, b2⟩ := id hQ
  clear hQ
  unfold Pl.val
  cases hv : plB p ss
  · rw [hv] at HP
    clear hm hk hv
    simp only [Bool.false_eq_true, if_false]
    go_enter Tryz.func39, Tryz.ntmps39
    go_wp2_with fail
    clear hW0 b0 b1 b2
    refine (HP.out W0 HB0.out).mono ?_
    rintro e w1 ⟨rfl, hx⟩
    go_wp2_with fail
    go_ret2
    exact ⟨rfl, BT HB0.out hx⟩
  have K := hk hv
  have HSC : Hid (∀ Y, Below w.heap.size w Y → Calls Tryz.prog 75 #[.agg #[.int .i64 p.lo, .int .i64 p.hi, .slice p.a p.n p.cap], .int .i64 (a : Int)] Y (ScOut (scL p ss a) Y)) := fun Y hY => scalesRR_any p ss a Y (hm.below hY (Nat.le_refl _)) K.ok K.lo K.lh K.hi
  have HKN : Hid (∀ Y, Below w.heap.size w Y → Calls Tryz.prog 48 #[.agg #[.int .i64 p.lo, .int .i64 p.hi, .slice p.a p.n p.cap]] Y (Ret (.int .i64 (a : Int)) Y)) := fun Y hY => by
    have h := knownR_any p ss Y (hm.below hY (Nat.le_refl _)) K.ok.n
    rw [K.e] at h; exact h
  rw [hv] at HP
  clear hm hk hv K
  simp only [if_true]
  generalize scL p ss a = L at *
  cases valid
  · simp only [Bool.false_eq_true, if_false]
    clear HSC HKN
    go_enter Tryz.func39, Tryz.ntmps39
    go_wp2_with fail
    clear hW0 b0 b1 b2
    refine (HP.out W0 HB0.out).mono ?_
    rintro e w1 ⟨rfl, hx⟩
    go_wp2_with fail
    go_ret2
    exact ⟨rfl, BT HB0.out hx⟩
  simp only [if_true]
  obtain ⟨r, hr⟩ : ∃ r : Except Int (List Int), (if L = [] then .error 10 else .ok L) = r := ⟨_, rfl⟩
  rw [hr]
  have HR := Lib.hid hr
  clear hr
  have hI : Hid (∀ Y, Below W0.heap.size W0 Y → Y.cell? ⟨w.heap.size, 0, none⟩ = some (.int .i64 p.lo) ∧ Y.cell? ⟨w.heap.size, 1, none⟩ = some (.int .i64 p.hi) ∧ Y.cell? ⟨w.heap.size, 2, none⟩ = some (.slice p.a p.n p.cap)) := fun Y hY => by
    obtain ⟨z0, z1, z2⟩ := HQ.out.grown hY
    exact ⟨z0, z1, z2⟩
  go_enter Tryz.func39, Tryz.ntmps39
  go_wp2_with fail
  clear hW0 b0 b1 b2
  refine (HP.out W0 HB0.out).mono ?_
  rintro e w1 ⟨rfl, hx⟩
  have hx0 := Lib.hid hx
  clear hx
  go_upto_region 5 with fail
  have hb0 := (hx0.out).drew
  refine wp_region_seq [(0, true), (1, true), (2, false), (3, false), (4, true)] (fun Y => Y.cell? ⟨w.heap.size, 0, none⟩ = some (.int .i64 p.lo) ∧ Y.cell? ⟨w.heap.size, 1, none⟩ = some (.int .i64 p.hi) ∧ Y.cell? ⟨w.heap.size, 2, none⟩ = some (.slice p.a p.n p.cap)) (by kernel_rfl) (by kernel_rfl) (fun _ _ d _ _ h => by cases d <;> exact h) (hI.out _ hb0) ?_
  generalize w1.drew = Y0 at *
  repeat (first | (refine seq_read rfl (by rfl) _ (fun w' hS => by (try dsimp only at hS); go_simp; (try with_reducible rfl)) ?_; (try simp only [Act.put, List.setIfInBounds_toArray, List.set_cons_zero, List.set_cons_succ])) | (refine seq_skip rfl (by rfl) ?_; (try simp only [Act.put, List.setIfInBounds_toArray, List.set_cons_zero, List.set_cons_succ])))
  refine seq_do rfl (by rfl) (fun K hK => ?_)
  go_simp
  refine (HKN.out Y0 (BT HB0.out hb0)).mono ?_
  rintro e Y1 ⟨rfl, hx⟩
  have hb1 := BT hb0 hx
  refine hK _ _ (hI.out _ hb1) ?_
  clear hK K hx hb0 hx0
  (try simp only [Act.put, List.setIfInBounds_toArray, List.set_cons_zero, List.set_cons_succ])
  refine seq_do rfl (by rfl) (fun K hK => ?_)
  go_simp
  refine (HSC.out Y1 (BT HB0.out hb1)).mono ?_
  rintro e Y2 ⟨sa, cap, rfl, hin, hx⟩
  have hb2 := BT hb1 hx
  refine hK _ _ (hI.out _ hb2) ?_
  clear hK K hx hb1
  (try simp only [Act.put, List.setIfInBounds_toArray, List.set_cons_zero, List.set_cons_succ])
  repeat (first | (refine seq_read rfl (by rfl) _ (fun w' hS => by (try dsimp only at hS); go_simp; (try with_reducible rfl)) ?_; (try simp only [Act.put, List.setIfInBounds_toArray, List.set_cons_zero, List.set_cons_succ])) | (refine seq_skip rfl (by rfl) ?_; (try simp only [Act.put, List.setIfInBounds_toArray, List.set_cons_zero, List.set_cons_succ])))
  apply seq_end
  show Exit.then _ _ Exit.normal _ _
  have hfin := Lib.hid (BT HB0.out hb2)
  have HIN := Lib.hid hin
  clear hin hb2 hI HP HSC HKN
  by_cases hL : L = []
  · have HR2 : Hid (r = .error 10) := by show r = _; rw [← HR.out, if_pos hL]
    clear HR
    subst hL
    go_wp2_with fail
    go_ret2
    rw [HR2.out]
    exact ⟨rfl, hfin.out⟩
  · have HR2 : Hid (r = .ok L) := by show r = _; rw [← HR.out, if_neg hL]
    clear HR
    have hl0 : ¬ L.length = 0 := fun h => hL (List.eq_nil_of_length_eq_zero h)
    have hl1 : ¬ (L.length : Int) = 0 := by omega
    have hl2 : (L.length == 0) = false := by simpa using hL
    have hl3 : ((L.length : Int) == 0) = false := by simpa using hL
    clear hL
    go_wp2_with fail
    go_ret2
    rw [HR2.out]
    exact ⟨sa, cap, rfl, HIN.out, hfin.out⟩
/-- .. and if no star is known, nothing can be told. -/
def doubtR (p : Pl) (ss : List St) (a : Nat) (valid : Bool) : Except Int (List Int) := match openR p ss a valid with
  | .error c => .error c
  | .ok L => if a = 0 then .error 12 else .ok L
theorem openR_err {p : Pl} {ss : List St} {a : Nat} {valid : Bool} {c : Int} (h : openR p ss a valid = .error c) : c ≠ 0 := by
  unfold openR at h
  split at h
  · split at h
    · split at h
      · injection h with h; omega
      · cases h
    · injection h with h; omega
  · injection h with h; omega
theorem openR_ok {p : Pl} {ss : List St} {a : Nat} {valid : Bool} {L : List Int} (h : openR p ss a valid = .ok L) : plB p ss = true ∧ valid = true ∧ L = scL p ss a ∧ L ≠ [] := by
  unfold openR at h
  split at h
  · rename_i hv
    split at h
    · rename_i hb
      split at h
      · cases h
      · rename_i hne
        injection h with h
        exact ⟨hv, hb, h.symm, by rw [← h]; exact hne⟩
    · cases h
  · cases h
set_option maxRecDepth 100000 in
set_option maxHeartbeats 4000000 in
theorem doubt_any (p : Pl) (ss : List St) (a : Nat) (valid : Bool) (w : World) (hm : PlAt p ss w) (hk : plB p ss = true → KnO p ss a) :
    Calls Tryz.prog 45 #[p.val, .bool valid] w (OpO (doubtR p ss a valid) w) := by
  have HO : Hid (∀ Y, Below w.heap.size w Y → Calls Tryz.prog 39 #[.agg #[.int .i64 p.lo, .int .i64 p.hi, .slice p.a p.n p.cap], .bool valid] Y (OpO (openR p ss a valid) Y)) := fun Y hY => open_any p ss a valid Y (hm.below hY (Nat.le_refl _)) hk
  obtain ⟨W0, hW0⟩ : ∃ X, w.alloc (.cells #[.int .i64 p.lo, .int .i64 p.hi, .slice p.a p.n p.cap] 26) = X := ⟨_, rfl⟩
  have hB0 : Below w.heap.size w W0 := by rw [← hW0]; exact newB _ _
  have hQ : BoxP W0 w.heap.size p := by rw [← hW0]; exact boxP_new w p _
  have HB0 := Lib.hid hB0
  have HQ := Lib.hid hQ
  obtain ⟨b0, b1, b2⟩ := id hQ
  clear hQ
  unfold doubtR Pl.val
  cases ho : openR p ss a valid with
  | error c =>
    have hc := openR_err ho
    have hc2 : (c == 0) = false := by simpa using hc
    rw [ho] at HO
    clear hm hk ho
    go_enter Tryz.func45, Tryz.ntmps45
    go_wp2_with fail
    clear hW0 b0 b1 b2
    refine (HO.out W0 HB0.out).mono ?_
    rintro e w1 ⟨rfl, hx⟩
    go_wp2_with fail
    go_ret2
    exact ⟨rfl, BT HB0.out hx⟩
  | ok L =>
    obtain ⟨hv, -, -, -⟩ := openR_ok ho
    have K := hk hv
    have HKN : Hid (∀ Y, Below w.heap.size w Y → Calls Tryz.prog 48 #[.agg #[.int .i64 p.lo, .int .i64 p.hi, .slice p.a p.n p.cap]] Y (Ret (.int .i64 (a : Int)) Y)) := fun Y hY => by
      have h := knownR_any p ss Y (hm.below hY (Nat.le_refl _)) K.ok.n
      rw [K.e] at h; exact h
    rw [ho] at HO
    clear hm hk ho hv K
    obtain ⟨r, hr⟩ : ∃ r : Except Int (List Int), (if a = 0 then .error 12 else .ok L) = r := ⟨_, rfl⟩
    dsimp only
    rw [hr]
    have HR := Lib.hid hr
    clear hr
    go_enter Tryz.func45, Tryz.ntmps45
    go_wp2_with fail
    clear hW0 b0 b1 b2
    refine (HO.out W0 HB0.out).mono ?_
    rintro e w1 ⟨sa, cap, rfl, hin, hx⟩
    have HIN := Lib.hid hin
    have HX := Lib.hid (BT HB0.out hx)
    obtain ⟨b0, b1, b2⟩ := HQ.out.grown hx
    clear hin hx
    go_wp2_with fail
    clear b0 b1 b2
    refine (HKN.out w1 HX.out).mono ?_
    rintro e w2 ⟨rfl, hx⟩
    have HX2 := Lib.hid (BT HX.out hx)
    have HIN2 := Lib.hid (HIN.out.below hx)
    clear hx HIN HX
    by_cases ha : a = 0
    · have HR2 : Hid (r = .error 12) := by show r = _; rw [← HR.out, if_pos ha]
      clear HR
      subst ha
      go_wp2_with fail
      go_ret2
      rw [HR2.out]
      exact ⟨rfl, HX2.out⟩
    · have HR2 : Hid (r = .ok L) := by show r = _; rw [← HR.out, if_neg ha]
      clear HR
      have ha1 : ¬ (a : Int) = 0 := by omega
      have ha2 : ((a : Int) == 0) = false := by simpa using ha
      clear ha
      go_wp2_with fail
      go_ret2
      rw [HR2.out]
      exact ⟨sa, cap, rfl, HIN2.out, HX2.out⟩
end Go.Proofs.YtdkegkacpdkjgaaGreat

namespace Go.Proofs.YtdkegkacpdkjgaaGreat
section
variable {P : Program} {ops : Array Oper} {l : List Oper} {Q : Exit → Act → World → Prop} {md : Region.Mode} {S : World → Prop} {F : List Nat}

/-- It waits for all of them. -/
def finalF (md : Region.Mode) (ops : Array Oper) (F : List Nat) (j : Nat) : Bool := F.all fun k => k == j || (depsN md ops 2 (deps md ops j)).contains k
def wpAnyRF (P : Program) (md : Region.Mode) (ops : Array Oper) (F : List Nat) (Q : Exit → Act → World → Prop) (S : World → Prop) : Nat → Array Bool → Act → World → Prop
  | 0, listed, a, w => Region.ready md ops listed = [] ∧ Q .normal a w
  | fuel + 1, listed, a, w =>
    (Region.ready md ops listed = [] → Q .normal a w) ∧
    ∀ i ∈ Region.ready md ops listed, wpOp P ops Q i (fun a' w' => (finalF md ops F i = false → S w → S w') ∧ wpAnyRF P md ops F Q S fuel (listed.setIfInBounds i true) a' w') a w
theorem wpAny_of_RF : ∀ (fuel : Nat) (listed : Array Bool) (a : Act) (w : World), wpAnyRF P md ops F Q S fuel listed a w → wpAny P md ops Q fuel listed a w
  | 0, _, _, _, h => h
  | fuel + 1, _, _, _, h => ⟨h.1, fun i hi => wpOp_mono (fun a' w' h' => wpAny_of_RF fuel _ a' w' h'.2) (h.2 i hi)⟩
theorem not_finalF {listed : Array Bool} {i j : Nat} (hc : Closed md ops listed) (hi : i ∈ Region.ready md ops listed) (hj : j ∈ Region.ready md ops listed) (hne : j ≠ i) (hF : i ∈ F) : finalF md ops F j = false := by
  obtain ⟨hi0, oi, hoi, _⟩ := mem_ready.1 hi
  cases hf : finalF md ops F j
  · rfl
  · exfalso
    unfold finalF at hf
    rw [List.all_eq_true] at hf
    have h1 := hf i hF
    simp only [Bool.or_eq_true, beq_iff_eq, List.contains_iff_mem] at h1
    rcases h1 with h1 | h1
    · exact hne h1.symm
    · have h2 := closed_depsN hc 2 _ (deps_ready hj) i h1
      rcases Nat.lt_or_ge i listed.size with h' | h'
      · simp [h'] at hi0 h2; rw [hi0] at h2; cases h2
      · simp [Array.getElem?_eq_none h'] at h2
theorem wpAnyR_firstF {i : Nat} {oi : Oper} {v : Value} (hF : i ∈ F) (hi : ops[i]? = some oi) (hsel : ∀ (j : Nat) (o : Oper) cs b, ops[j]? = some o → o.op ≠ .select cs b)
    (hQ : ∀ c a w, Q (.panic c) (a.put oi.dst v) w → Q (.panic c) a w) :
    ∀ (fuel : Nat) (listed : Array Bool) (a : Act) (w : World), Closed md ops listed →
      (∀ j oj, ops[j]? = some oj → j ≠ i → listed.getD j true = false → (∀ e ∈ oj.after, Region.binds md e = true → e.on ≠ i) → oi.apart ops oj = true) →
      i ∈ Region.ready md ops listed → YieldsIf P ops S oi v a → S w →
      wpAnyRF P md ops F Q S fuel (listed.setIfInBounds i true) (a.put oi.dst v) w → wpAnyRF P md ops F Q S (fuel + 1) listed a w := by
  intro fuel
  induction fuel with
  | zero =>
    intro listed a w _ _ hr hy hS H
    refine ⟨fun h => absurd hr (by rw [h]; simp), fun j hj => ?_⟩
    by_cases hji : j = i
    · subst hji; exact hy.wpOp hi hS ⟨fun _ h => h, H⟩
    · have hj' := ready_mono hj hji
      rw [H.1] at hj'; cases hj'
  | succ fuel ih =>
    intro listed a w hcl hfree hr hy hS H
    refine ⟨fun h => absurd hr (by rw [h]; simp), fun j hj => ?_⟩
    by_cases hji : j = i
    · subst hji; exact hy.wpOp hi hS ⟨fun _ h => h, H⟩
    · have hnf := not_finalF hcl hr hj hji hF
      obtain ⟨hjun, oj, hoj, hall⟩ := mem_ready.1 hj
      have hnot : ∀ e ∈ oj.after, Region.binds md e = true → e.on ≠ i := fun e he hb heq => by
        have h2 := hall e he hb
        have h0 := (mem_ready.1 hr).1
        rw [heq] at h2
        rcases Nat.lt_or_ge i listed.size with h' | h'
        · simp [h'] at h0 h2; rw [h0] at h2; cases h2
        · simp [Array.getElem?_eq_none h'] at h2
      have hstep := wpOp_putIf hoj (hfree j oj hoj hji hjun hnot) (fun cs b => hsel i oi cs b hi) (fun cs b => hsel j oj cs b hoj) hQ hy (H.2 j (ready_mono hj hji))
      have hfree2 : ∀ k ok, ops[k]? = some ok → k ≠ i → (listed.setIfInBounds j true).getD k true = false →
          (∀ e ∈ ok.after, Region.binds md e = true → e.on ≠ i) → oi.apart ops ok = true := fun k ok hk hki hun hno => by
        refine hfree k ok hk hki ?_ hno
        by_cases hjk : j = k
        · subst hjk; exact hjun
        · rw [getD_set_ne true hjk] at hun; exact hun
      refine wpOp_mono (fun a' w' h3 => ?_) hstep
      obtain ⟨hy3, hS3, h3⟩ := h3
      rw [Array.setIfInBounds_comm _ _ (Ne.symm hji)] at h3
      exact ⟨hS3, ih (listed.setIfInBounds j true) a' w' (closed_set hcl hj) hfree2 (ready_mono hr (Ne.symm hji)) hy3 (hS3 hnf hS) h3⟩


theorem wpAnyR_firstG {i : Nat} {oi : Oper} {v : Value} (hi : ops[i]? = some oi) (hsel : ∀ (j : Nat) (o : Oper) cs b, ops[j]? = some o → o.op ≠ .select cs b)
    (hQ : ∀ c a w, Q (.panic c) (a.put oi.dst v) w → Q (.panic c) a w) :
    ∀ (fuel : Nat) (listed : Array Bool) (a : Act) (w : World), Closed md ops listed →
      (∀ j oj, ops[j]? = some oj → j ≠ i → listed.getD j true = false → (∀ e ∈ oj.after, Region.binds md e = true → e.on ≠ i) → oi.apart ops oj = true) →
      i ∈ Region.ready md ops listed → YieldsIf P ops (fun _ => True) oi v a →
      wpAnyRF P md ops F Q S fuel (listed.setIfInBounds i true) (a.put oi.dst v) w → wpAnyRF P md ops F Q S (fuel + 1) listed a w := by
  intro fuel
  induction fuel with
  | zero =>
    intro listed a w _ _ hr hy H
    refine ⟨fun h => absurd hr (by rw [h]; simp), fun j hj => ?_⟩
    by_cases hji : j = i
    · subst hji; exact hy.wpOp hi trivial ⟨fun _ h => h, H⟩
    · have hj' := ready_mono hj hji
      rw [H.1] at hj'; cases hj'
  | succ fuel ih =>
    intro listed a w hcl hfree hr hy H
    refine ⟨fun h => absurd hr (by rw [h]; simp), fun j hj => ?_⟩
    by_cases hji : j = i
    · subst hji; exact hy.wpOp hi trivial ⟨fun _ h => h, H⟩
    · obtain ⟨hjun, oj, hoj, hall⟩ := mem_ready.1 hj
      have hnot : ∀ e ∈ oj.after, Region.binds md e = true → e.on ≠ i := fun e he hb heq => by
        have h2 := hall e he hb
        have h0 := (mem_ready.1 hr).1
        rw [heq] at h2
        rcases Nat.lt_or_ge i listed.size with h' | h'
        · simp [h'] at h0 h2; rw [h0] at h2; cases h2
        · simp [Array.getElem?_eq_none h'] at h2
      have hstep := wpOp_putIf hoj (hfree j oj hoj hji hjun hnot) (fun cs b => hsel i oi cs b hi) (fun cs b => hsel j oj cs b hoj) hQ hy (H.2 j (ready_mono hj hji))
      have hfree2 : ∀ k ok, ops[k]? = some ok → k ≠ i → (listed.setIfInBounds j true).getD k true = false →
          (∀ e ∈ ok.after, Region.binds md e = true → e.on ≠ i) → oi.apart ops ok = true := fun k ok hk hki hun hno => by
        refine hfree k ok hk hki ?_ hno
        by_cases hjk : j = k
        · subst hjk; exact hjun
        · rw [getD_set_ne true hjk] at hun; exact hun
      refine wpOp_mono (fun a' w' h3 => ?_) hstep
      obtain ⟨hy3, hS3, h3⟩ := h3
      rw [Array.setIfInBounds_comm _ _ (Ne.symm hji)] at h3
      exact ⟨hS3, ih (listed.setIfInBounds j true) a' w' (closed_set hcl hj) hfree2 (ready_mono hr (Ne.symm hji)) hy3 h3⟩


def lateTr (md : Region.Mode) (ops : Array Oper) (F : List Nat) : Tr → Bool
  | .leaf => true
  | .one i t => finalF md ops F i && lateTr md ops F t
  | .read i t => !F.contains i && lateTr md ops F t
  | _ => false
def okTrF (md : Region.Mode) (ops : Array Oper) (F : List Nat) : Tr → Array Bool → Bool
  | .leaf, d => (Region.ready md ops d).isEmpty
  | .read i t, d => (Region.ready md ops d).contains i && Region.free md ops d i && okTrF md ops F t (d.setIfInBounds i true)
  | .one i t, d => decide (Region.ready md ops d = [i]) && (!finalF md ops F i || lateTr md ops F t) && okTrF md ops F t (d.setIfInBounds i true)
  | .two i t j u, d => decide (Region.ready md ops d = [i, j]) && !finalF md ops F i && !finalF md ops F j && okTrF md ops F t (d.setIfInBounds i true) && okTrF md ops F u (d.setIfInBounds j true)
  | .three i t j u k v, d => decide (Region.ready md ops d = [i, j, k]) && !finalF md ops F i && !finalF md ops F j && !finalF md ops F k && okTrF md ops F t (d.setIfInBounds i true) && okTrF md ops F u (d.setIfInBounds j true) && okTrF md ops F v (d.setIfInBounds k true)
def stepTrF (P : Program) (md : Region.Mode) (l : List Oper) (F : List Nat) (Q : Exit → Act → World → Prop) (S : World → Prop) (i : Nat) (K : Act → World → Prop) (a : Act) (w : World) : Prop :=
  match l[i]? with
  | none => False
  | some o => (Region.wanted o (yielded l.toArray a.tmps) = false ∧ K (a.put o.dst undef) w) ∨
      (Region.wanted o (yielded l.toArray a.tmps) = true ∧ o.wp P a w (fun a' w' => (finalF md l.toArray F i = false → S w') ∧ ((finalF md l.toArray F i = false → S w') → K a' w')) Q)
def wpTrF (P : Program) (md : Region.Mode) (l : List Oper) (F : List Nat) (Q : Exit → Act → World → Prop) (S : World → Prop) : Tr → Act → World → Prop
  | .leaf, a, w => Q .normal a w
  | .read i t, a, w => match l[i]? with
    | none => False
    | some o => (Region.wanted o (yielded l.toArray a.tmps) = false ∧ wpTrF P md l F Q S t (a.put o.dst undef) w) ∨
        (Region.wanted o (yielded l.toArray a.tmps) = true ∧ ∃ v, (∀ w', (F.contains i = true → S w') → (execOp a.eval o).run P w' = .ok (.value v) w') ∧ wpTrF P md l F Q S t (a.put o.dst v) w)
  | .one i t, a, w => stepTrF P md l F Q S i (wpTrF P md l F Q S t) a w
  | .two i t j u, a, w => stepTrF P md l F Q S i (wpTrF P md l F Q S t) a w ∧ stepTrF P md l F Q S j (wpTrF P md l F Q S u) a w
  | .three i t j u k v, a, w => stepTrF P md l F Q S i (wpTrF P md l F Q S t) a w ∧ stepTrF P md l F Q S j (wpTrF P md l F Q S u) a w ∧ stepTrF P md l F Q S k (wpTrF P md l F Q S v) a w

theorem step_soundF {i fuel : Nat} {K : Act → World → Prop} {listed : Array Bool} {a : Act} {w : World} (hS : finalF md l.toArray F i = false → S w) (h : stepTrF P md l F Q S i K a w)
    (hK : ∀ a' w', (finalF md l.toArray F i = false → S w') → K a' w' → wpAnyRF P md l.toArray F Q S fuel (listed.setIfInBounds i true) a' w') :
    wpOp P l.toArray Q i (fun a' w' => (finalF md l.toArray F i = false → S w → S w') ∧ wpAnyRF P md l.toArray F Q S fuel (listed.setIfInBounds i true) a' w') a w := by
  unfold stepTrF at h
  cases ho : l[i]? with
  | none => rw [ho] at h; exact h.elim
  | some o =>
    rw [ho] at h
    have ho' : l.toArray[i]? = some o := by simpa using ho
    unfold Go.wpOp
    rw [ho']
    rcases h with ⟨hw, h⟩ | ⟨hw, h⟩
    · simp only [hw, Bool.false_eq_true, if_false]
      exact ⟨fun h _ => hS h, hK _ _ hS h⟩
    · simp only [hw, if_true]
      exact Or.inl (Oper.wp_mono (fun a' w' h' => ⟨fun h _ => h'.1 h, hK a' w' h'.1 (h'.2 h'.1)⟩) h)

theorem wpTr_soundF (hs : Region.noSelect l.toArray = true) (hQ : ∀ c a d v w, Q (.panic c) (Act.put a d v) w → Q (.panic c) a w) :
    ∀ (t : Tr) (fuel : Nat) (listed : Array Bool) (a : Act) (w : World), t.depth ≤ fuel → Closed md l.toArray listed → okTrF md l.toArray F t listed = true → (lateTr md l.toArray F t = false → S w) → wpTrF P md l F Q S t a w → wpAnyRF P md l.toArray F Q S fuel listed a w := by
  intro t
  induction t with
  | leaf =>
    intro fuel listed a w _ _ hok _ h
    have hr : Region.ready md l.toArray listed = [] := by simpa [okTrF] using hok
    cases fuel with
    | zero => exact ⟨hr, h⟩
    | succ fuel => exact ⟨fun _ => h, by rw [hr]; simp⟩
  | read i t ih =>
    intro fuel listed a w hf hcl hok hS0 h
    have hSt : lateTr md l.toArray F t = false → S w := fun h => hS0 (by rw [lateTr, h, Bool.and_false])
    cases fuel with
    | zero => simp [Tr.depth] at hf
    | succ fuel =>
      have hf' : t.depth ≤ fuel := by simp [Tr.depth] at hf; omega
      simp only [okTrF, Bool.and_eq_true] at hok
      obtain ⟨⟨hc, hfr⟩, hok⟩ := hok
      have hr : i ∈ Region.ready md l.toArray listed := by simpa using hc
      simp only [wpTrF] at h
      cases ho : l[i]? with
      | none => rw [ho] at h; exact h.elim
      | some o =>
        rw [ho] at h
        have ho' : l.toArray[i]? = some o := by simpa using ho
        cases hFi : F.contains i with
        | true =>
          have hF : i ∈ F := by simpa using hFi
          have hS : S w := hS0 (by rw [lateTr, hFi]; rfl)
          rcases h with ⟨hw, h⟩ | ⟨hw, v, hv, h⟩
          · exact wpAnyR_firstF hF ho' (Region.noSelect_spec hs) (fun c a w => hQ c a _ _ w) fuel listed a w hcl (Region.free_spec ho' hfr) hr (Or.inr ⟨hw, rfl⟩) hS (ih fuel _ _ _ hf' (closed_set hcl hr) hok hSt h)
          · exact wpAnyR_firstF hF ho' (Region.noSelect_spec hs) (fun c a w => hQ c a _ _ w) fuel listed a w hcl (Region.free_spec ho' hfr) hr (Or.inl ⟨hw, fun w' hw' => hv w' (fun _ => hw')⟩) hS (ih fuel _ _ _ hf' (closed_set hcl hr) hok hSt h)
        | false =>
          rcases h with ⟨hw, h⟩ | ⟨hw, v, hv, h⟩
          · exact wpAnyR_firstG ho' (Region.noSelect_spec hs) (fun c a w => hQ c a _ _ w) fuel listed a w hcl (Region.free_spec ho' hfr) hr (Or.inr ⟨hw, rfl⟩) (ih fuel _ _ _ hf' (closed_set hcl hr) hok hSt h)
          · exact wpAnyR_firstG ho' (Region.noSelect_spec hs) (fun c a w => hQ c a _ _ w) fuel listed a w hcl (Region.free_spec ho' hfr) hr (Or.inl ⟨hw, fun w' _ => hv w' (fun h => by rw [hFi] at h; cases h)⟩) (ih fuel _ _ _ hf' (closed_set hcl hr) hok hSt h)
  | one i t ih =>
    intro fuel listed a w hf hcl hok hS0 h
    cases fuel with
    | zero => simp [Tr.depth] at hf
    | succ fuel =>
      have hf' : t.depth ≤ fuel := by simp [Tr.depth] at hf; omega
      simp only [okTrF, Bool.and_eq_true, decide_eq_true_eq, Bool.or_eq_true, Bool.not_eq_true'] at hok
      obtain ⟨⟨hr, hfin⟩, hok⟩ := hok
      refine ⟨fun h0 => absurd h0 (by rw [hr]; simp), fun j hj => ?_⟩
      rw [hr] at hj
      obtain rfl : j = i := by simpa using hj
      refine step_soundF (fun hi => hS0 (by simp [lateTr, hi])) h (fun a' w' hS' h' => ih fuel _ _ _ hf' (closed_set hcl (by rw [hr]; simp)) hok (fun hl => ?_) h')
      rcases hfin with hfin | hfin
      · exact hS' hfin
      · rw [hfin] at hl; cases hl
  | two i t j u iht ihu =>
    intro fuel listed a w hf hcl hok hS0 h
    have hS := hS0 rfl
    cases fuel with
    | zero => simp [Tr.depth] at hf
    | succ fuel =>
      have hf' : t.depth ≤ fuel ∧ u.depth ≤ fuel := by simp [Tr.depth] at hf; omega
      simp only [okTrF, Bool.and_eq_true, decide_eq_true_eq, Bool.not_eq_true'] at hok
      obtain ⟨⟨⟨⟨hr, hi⟩, hj⟩, hok1⟩, hok2⟩ := hok
      obtain ⟨h1, h2⟩ := h
      refine ⟨fun h0 => absurd h0 (by rw [hr]; simp), fun k hk => ?_⟩
      rw [hr] at hk
      simp only [List.mem_cons, List.not_mem_nil, or_false] at hk
      rcases hk with rfl | rfl
      · exact step_soundF (fun _ => hS) h1 (fun a' w' hS' h' => iht fuel _ _ _ hf'.1 (closed_set hcl (by rw [hr]; simp)) hok1 (fun _ => hS' hi) h')
      · exact step_soundF (fun _ => hS) h2 (fun a' w' hS' h' => ihu fuel _ _ _ hf'.2 (closed_set hcl (by rw [hr]; simp)) hok2 (fun _ => hS' hj) h')
  | three i t j u k v iht ihu ihv =>
    intro fuel listed a w hf hcl hok hS0 h
    have hS := hS0 rfl
    cases fuel with
    | zero => simp [Tr.depth] at hf
    | succ fuel =>
      have hf' : t.depth ≤ fuel ∧ u.depth ≤ fuel ∧ v.depth ≤ fuel := by simp [Tr.depth] at hf; omega
      simp only [okTrF, Bool.and_eq_true, decide_eq_true_eq, Bool.not_eq_true'] at hok
      obtain ⟨⟨⟨⟨⟨⟨hr, hi⟩, hj⟩, hk'⟩, hok1⟩, hok2⟩, hok3⟩ := hok
      obtain ⟨h1, h2, h3⟩ := h
      refine ⟨fun h0 => absurd h0 (by rw [hr]; simp), fun m hm => ?_⟩
      rw [hr] at hm
      simp only [List.mem_cons, List.not_mem_nil, or_false] at hm
      rcases hm with rfl | rfl | rfl
      · exact step_soundF (fun _ => hS) h1 (fun a' w' hS' h' => iht fuel _ _ _ hf'.1 (closed_set hcl (by rw [hr]; simp)) hok1 (fun _ => hS' hi) h')
      · exact step_soundF (fun _ => hS) h2 (fun a' w' hS' h' => ihu fuel _ _ _ hf'.2.1 (closed_set hcl (by rw [hr]; simp)) hok2 (fun _ => hS' hj) h')
      · exact step_soundF (fun _ => hS) h3 (fun a' w' hS' h' => ihv fuel _ _ _ hf'.2.2 (closed_set hcl (by rw [hr]; simp)) hok3 (fun _ => hS' hk') h')


def treeOkF (ops : Array Oper) (F : List Nat) (t : Tr) : Bool := Region.noSelect ops && decide (t.depth ≤ ops.size) && okTrF .any ops F t (Array.replicate ops.size false)
/-- The beginning: the tree, checked by the kernel; S of the world at hand. -/
theorem wp_region_treeF {id : Nat} {a : Act} {w : World} (F : List Nat) (t : Tr) (S : World → Prop) (hm : P.follows .mixedOrders = true) (hok : treeOkF l.toArray F t = true)
    (hQ : ∀ c a d v w, Q (.panic c) (Act.put a d v) w → Q (.panic c) a w) (hS : S w.drew) (h : wpTrF P .any l F Q S t a w.drew) : (Code.region id l.toArray true).wp P Q a w := by
  unfold treeOkF at hok
  simp only [Bool.and_eq_true, decide_eq_true_eq] at hok
  obtain ⟨⟨h1, h2⟩, h3⟩ := hok
  exact wp_region_any hm (wpAny_of_RF (S := S) _ _ _ _ (wpTr_soundF h1 hQ t _ _ _ _ h2 (closed_none _) h3 (fun _ => hS) h))
theorem trF_skip {i : Nat} {t : Tr} {o : Oper} {a : Act} {w : World} (ho : l[i]? = some o) (hw : Region.wanted o (yielded l.toArray a.tmps) = false)
    (h : wpTrF P md l F Q S t (a.put o.dst undef) w) : wpTrF P md l F Q S (.read i t) a w := by
  simp only [wpTrF, ho]; exact .inl ⟨hw, h⟩
theorem trF_read {i : Nat} {t : Tr} {o : Oper} {a : Act} {w : World} (ho : l[i]? = some o) (hw : Region.wanted o (yielded l.toArray a.tmps) = true) (v : Value)
    (hv : ∀ w', (F.contains i = true → S w') → (execOp a.eval o).run P w' = .ok (.value v) w') (h : wpTrF P md l F Q S t (a.put o.dst v) w) : wpTrF P md l F Q S (.read i t) a w := by
  simp only [wpTrF, ho]; exact .inr ⟨hw, v, hv, h⟩
theorem trF_step {i : Nat} {T : Act → World → Prop} {o : Oper} {a : Act} {w : World} (ho : l[i]? = some o) (hw : Region.wanted o (yielded l.toArray a.tmps) = true)
    (h : ∀ K : Act → World → Prop, (∀ a w, S w → T a w → K a w) → o.wp P a w K Q) : stepTrF P md l F Q S i T a w := by
  simp only [stepTrF, ho]; exact .inr ⟨hw, by simpa using h _ (fun a w hS h => ⟨fun _ => hS, fun _ => h⟩)⟩
/-- One that waits for all reads that are listed. -/
theorem trF_late {i : Nat} {T : Act → World → Prop} {o : Oper} {a : Act} {w : World} (ho : l[i]? = some o) (hw : Region.wanted o (yielded l.toArray a.tmps) = true) (hf : finalF md l.toArray F i = true)
    (h : ∀ K : Act → World → Prop, (∀ a w, T a w → K a w) → o.wp P a w K Q) : stepTrF P md l F Q S i T a w := by
  simp only [stepTrF, ho]; exact .inr ⟨hw, by simpa [hf] using h T (fun a w h => h)⟩
end
end Go.Proofs.YtdkegkacpdkjgaaGreat

namespace Go.Proofs.YtdkegkacpdkjgaaGreat
open Go.RowKit

def scaleRR (p : Pl) (ss : List St) (a : Nat) : Int × Int × Int := match openR p ss a true with
  | .error c => (0, 0, c)
  | .ok L => (L.getD 0 0, L.getD (L.length - 1) 0, 0)
set_option maxRecDepth 100000 in
set_option maxHeartbeats 4000000 in
theorem scaleRR_any (p : Pl) (ss : List St) (a : Nat) (w : World) (hm : PlAt p ss w) (hk : plB p ss = true → KnO p ss a) :
    Calls Tryz.prog 9 #[p.val] w (Ret (.tuple #[.agg #[.int .i64 (scaleRR p ss a).1, .int .i64 (scaleRR p ss a).2.1], .int .i64 (scaleRR p ss a).2.2]) w) := by
  have HO : Hid (∀ Y, Below w.heap.size w Y → Calls Tryz.prog 39 #[.agg #[.int .i64 p.lo, .int .i64 p.hi, .slice p.a p.n p.cap], .bool true] Y (OpO (openR p ss a true) Y)) := fun Y hY => open_any p ss a true Y (hm.below hY (Nat.le_refl _)) hk
  obtain ⟨W0, hW0⟩ : ∃ X, (w.alloc (.cells #[.int .i64 p.lo, .int .i64 p.hi, .slice p.a p.n p.cap] 26)).alloc (.cells #[.int .i64 0, .int .i64 0] 23) = X := ⟨_, rfl⟩
  have hB0 : Below w.heap.size w W0 := by rw [← hW0]; exact BA (newB _ _) _
  have hQ : BoxP W0 w.heap.size p := by rw [← hW0]; exact (boxP_new w p _).grown (newB _ _)
  have hR : Slots (w.heap.size + 1) 2 W0 := by have := slots_new2r (w.alloc (.cells #[.int .i64 p.lo, .int .i64 p.hi, .slice p.a p.n p.cap] 26)) 23; rw [World.size_alloc, hW0] at this; exact this
  have HB0 := Lib.hid hB0
  have HS := Lib.hid hR
  have hl0 := hR.lt2r
  obtain ⟨b0, b1, b2⟩ := id hQ
  have HK := Lib.hid hk
  clear hQ hm hk hR
  unfold scaleRR Pl.val
  cases ho : openR p ss a true with
  | error c =>
    have hc := openR_err ho
    have hc2 : (c == 0) = false := by simpa using hc
    rw [ho] at HO
    clear ho
    dsimp only
    go_enter Tryz.func9, Tryz.ntmps9
    go_wp2_with fail
    clear hW0 b0 b1 b2
    refine (HO.out W0 HB0.out).mono ?_
    rintro e w1 ⟨rfl, hx⟩
    have hs := HS.out.below hx hl0
    obtain ⟨u0, r0, f0⟩ := hs.get 0 (by omega)
    obtain ⟨u1, r1, f1⟩ := hs.get 1 (by omega)
    have hfin := BC (BC (BT HB0.out hx) (w.heap.size + 1) 0 (by omega) (.int .i64 0)) (w.heap.size + 1) 1 (by omega) (.int .i64 0)
    clear hx hB0
    go_wp2_with fail
    exact bodyPost_ret (v := .tuple #[.agg #[.int .i64 0, .int .i64 0], .int .i64 c]) (by simp [results, Tryz.results9, go_sem, r0, r1]) rfl ⟨rfl, hfin⟩
  | ok L =>
    obtain ⟨hv, -, hLs, hne⟩ := openR_ok ho
    have K := HK.out hv
    have hl1 : L.length ≤ 1000 := by
      have k0 := K.lo
      have k1 := K.hi
      have := scTo_len (fun sc => crB ss sc a.testBit p.n) p.lo (p.hi + 1 - p.lo).toNat
      rw [hLs]; unfold scL; omega
    clear K hv hLs
    rw [ho] at HO
    clear ho
    dsimp only
    have hL1 : 0 < L.length := List.length_pos_iff.2 hne
    clear hne
    go_enter Tryz.func9, Tryz.ntmps9
    go_wp2_with fail
    clear hW0 b0 b1 b2
    refine (HO.out W0 HB0.out).mono ?_
    rintro e w1 ⟨sa, cap, rfl, hin, hx⟩
    have hs := HS.out.below hx hl0
    obtain ⟨g, rfl, hg, hc⟩ : ∃ g, sa = some ⟨g, 0, none⟩ ∧ g < w1.heap.size ∧ ∀ k, k < L.length → w1.cell? ⟨g, k, none⟩ = some (.int .i64 (L.getD k 0)) := by
      rcases hin with h | h
      · subst h; simp at hL1
      · exact h
    have k0 := hc 0 hL1
    have k1 := hc (L.length - 1) (by omega)
    have hw1 : IntKind.i64.wrap ((L.length : Int) - 1) = ((L.length - 1 : Nat) : Int) := by rw [IntWalk.i64_in _ (by omega)]; omega
    go_upto_region 4 with fail
    generalize L.getD 0 0 = x0 at *
    generalize L.getD (L.length - 1) 0 = x1 at *
    have hll : (0 : Int) < (L.length : Int) := by omega
    have hl3 : L.length - 1 < L.length := by omega
    obtain ⟨j, hj⟩ : ∃ j, L.length - 1 = j := ⟨_, rfl⟩
    rw [hj] at k1 hw1 hl3
    have hj0 : (0 : Int) ≤ (j : Int) := by omega
    have hj1 : (j : Int) < (L.length : Int) := by omega
    have hfin := BC (BC (BT HB0.out (hx.drew)) (w.heap.size + 1) 0 (by omega) (.int .i64 x0)) (w.heap.size + 1) 1 (by omega) (.int .i64 x1)
    have hs := hs.drew
    clear hj hin hc hx hg
    refine wp_region_treeF [2, 8] (.read 0 (.read 1 (.read 2 (.read 3 (.read 4 (.read 5 (.read 6 (.read 7 (.read 8 (.read 9 (.one 10 (.read 11 .leaf)))))))))))) (fun Y => Y.cell? ⟨g, 0, none⟩ = some (.int .i64 x0) ∧ Y.cell? ⟨g, j, none⟩ = some (.int .i64 x1)) (by kernel_rfl) (by kernel_rfl) (fun _ _ d _ _ h => by cases d <;> exact h) ⟨k0, k1⟩ ?_
    generalize w1.drew = Y0 at *
    repeat (first | (refine trF_read rfl (by rfl) _ (fun w' hS => by (try replace hS := hS (by decide)); (try dsimp only at hS); go_simp; (try with_reducible rfl)) ?_; (try simp only [Act.put, List.setIfInBounds_toArray, List.set_cons_zero, List.set_cons_succ])) | (refine trF_skip rfl (by rfl) ?_; (try simp only [Act.put, List.setIfInBounds_toArray, List.set_cons_zero, List.set_cons_succ])))
    refine trF_late rfl (by rfl) (by kernel_rfl) (fun K hK => ?_)
    obtain ⟨u0, r0, f0⟩ := hs.get 0 (by omega)
    obtain ⟨u1, r1, f1⟩ := hs.get 1 (by omega)
    go_simp
    refine hK _ _ ?_
    clear hK K
    (try simp only [Act.put, List.setIfInBounds_toArray, List.set_cons_zero, List.set_cons_succ])
    repeat (first | (refine trF_read rfl (by rfl) _ (fun w' hS => by (try replace hS := hS (by decide)); (try dsimp only at hS); go_simp; (try with_reducible rfl)) ?_; (try simp only [Act.put, List.setIfInBounds_toArray, List.set_cons_zero, List.set_cons_succ])) | (refine trF_skip rfl (by rfl) ?_; (try simp only [Act.put, List.setIfInBounds_toArray, List.set_cons_zero, List.set_cons_succ])))
    show Exit.then _ _ Exit.normal _ _
    go_wp2_with fail
    exact bodyPost_ret (v := .tuple #[.agg #[.int .i64 x0, .int .i64 x1], .int .i64 0]) (by simp [results, Tryz.results9, go_sem, r0, r1]) rfl ⟨rfl, hfin⟩
end Go.Proofs.YtdkegkacpdkjgaaGreat

namespace Go.Proofs.YtdkegkacpdkjgaaGreat
open Go.RowKit

/-- Where a star can be with a scale and a corner. -/
def plcR (s : St) (sc c : Int) (d : Bool) : Int × Int := if s.k then (max (c + (beyS sc s d).1) (s.sky d).1, min (c + (beyS sc s d).2) (s.sky d).2) else (c + (beyS sc s d).1, c + (beyS sc s d).2)
set_option maxRecDepth 100000 in
set_option maxHeartbeats 4000000 in
theorem placeRR_any (s : St) (sc c : Int) (d : Bool) (w : World) (hOK : StOk s d) (h0 : 0 ≤ sc) (h1 : sc ≤ 1000) (hc0 : -2199023255552 ≤ c) (hc1 : c ≤ 2199023255552) :
    Calls Tryz.prog 114 #[.agg s.cells, .int .i64 sc, .int .i64 c, .bool d] w (Ret (.agg #[.int .i64 (plcR s sc c d).1, .int .i64 (plcR s sc c d).2]) w) := by
  obtain ⟨W0, hW0⟩ : ∃ X, (w.alloc (.cells s.cells 60)).alloc (.cells #[.int .i64 0, .int .i64 0] 23) = X := ⟨_, rfl⟩
  have hB0 : Below w.heap.size w W0 := by rw [← hW0]; exact BA (newB _ _) _
  have hst : StAt s w.heap.size 0 W0 := by rw [← hW0]; exact (StAt.new s _ w).below (newB _ _) (by simp)
  have hR : Slots (w.heap.size + 1) 2 W0 := by have := slots_new2r (w.alloc (.cells s.cells 60)) 23; rw [World.size_alloc, hW0] at this; exact this
  have hl0 := hR.lt2r
  have hl1 : w.heap.size < W0.heap.size := by omega
  have HB0 := Lib.hid hB0
  have HS := Lib.hid hR
  have HST := Lib.hid hst
  have oa := hOK.a
  have ob := hOK.b
  have oc := hOK.c
  have oe := hOK.e
  have og := hOK.g
  have by0 := bey_rng hOK h0 h1
  obtain ⟨R, hRR⟩ : ∃ R, plcR s sc c d = R := ⟨_, rfl⟩
  rw [hRR]
  unfold plcR at hRR
  unfold beyS at hRR by0
  dsimp only at hRR by0
  obtain ⟨z0, z1, z2, z3, z4, z5, z6, z7, z8⟩ := id hst
  clear hst hR hB0 hOK
  go_enter Tryz.func114, Tryz.ntmps114
  go_wp2_with fail
  clear hW0 z0 z1 z2 z3 z4 z5 z6 z7 z8
  refine (way_any s d W0).mono ?_
  rintro e Y2 ⟨rfl, hB⟩
  generalize (s.on d).1 = a0 at *
  generalize (s.on d).2 = a1 at *
  generalize (s.sky d).1 = c0 at *
  generalize (s.sky d).2 = c1 at *
  have HLN := Lib.hid (fun Y => long_any sc a0 a1 Y h0 h1 oa ob oc)
  generalize sc * a0 / 1000 = l0 at *
  generalize sc * a1 / 1000 = l1 at *
  obtain ⟨by1, by2, by3⟩ := by0
  have HRR := Lib.hid hRR
  clear hRR
  have hx : Below Y2.heap.size Y2 ((Y2.alloc (.cells #[.int .i64 a0, .int .i64 a1] 23)).alloc (.cells #[.int .i64 c0, .int .i64 c1] 23)) := BA (newB _ _) _
  have k11 : Spn2 ((Y2.alloc (.cells #[.int .i64 a0, .int .i64 a1] 23)).alloc (.cells #[.int .i64 c0, .int .i64 c1] 23)) Y2.heap.size a0 a1 := (spn2_new Y2 a0 a1 _).grown (newB _ _)
  have k12 : Spn2 ((Y2.alloc (.cells #[.int .i64 a0, .int .i64 a1] 23)).alloc (.cells #[.int .i64 c0, .int .i64 c1] 23)) (Y2.heap.size + 1) c0 c1 := by have := spn2_new (Y2.alloc (.cells #[.int .i64 a0, .int .i64 a1] 23)) c0 c1 23; rw [World.size_alloc] at this; exact this
  have hB := BT hB hx
  obtain ⟨p11, r11, -, -⟩ := id k11
  clear hx
  go_wp2_with fail
  clear p11 r11
  generalize (Y2.alloc (.cells #[.int .i64 a0, .int .i64 a1] 23)).alloc (.cells #[.int .i64 c0, .int .i64 c1] 23) = Y3 at *
  generalize Y2.heap.size = G at *
  refine (HLN.out Y3).mono ?_
  rintro e Y4 ⟨rfl, hx⟩
  have hB := BT hB hx
  replace k12 := k12.grown hx
  have hx := newB Y4 (.cells #[.int .i64 l0, .int .i64 l1] 23)
  have k13 := spn2_new Y4 l0 l1 23
  have hB := BT hB hx
  replace k12 := k12.grown hx
  clear k11 HLN hx
  obtain ⟨t0, t1, -, -⟩ := id k13
  go_upto_region 3 with fail
  generalize Y4.alloc (.cells #[.int .i64 l0, .int .i64 l1] 23) = Y5 at *
  generalize Y4.heap.size = G4 at *
  have hlY : W0.heap.size ≤ Y5.heap.size := hB.size
  have hx := newB Y5 (.cells #[.int .i64 (c + l0), .int .i64 (c + l1)] 23)
  have k14 := spn2_new Y5 (c + l0) (c + l1) 23
  have hB := BT hB hx
  replace k12 := k12.grown hx
  clear hx k13
  go_upto_region 4 with fail
  generalize Y5.alloc (.cells #[.int .i64 (c + l0), .int .i64 (c + l1)] 23) = Y6 at *
  generalize Y5.heap.size = G5 at *
  clear t0 t1
  obtain ⟨-, -, -, -, z4, -, -, -, -⟩ := HST.out.below hB hl1
  obtain ⟨q0, q1, f0, f1⟩ := id k14
  obtain ⟨v0, v1, -, -⟩ := id k12
  have hs := HS.out.below hB hl0
  cases hk : s.k
  · rw [hk] at z4
    have hE := HRR.out
    rw [hk] at hE
    simp only [Bool.false_eq_true, if_false] at hE
    subst hE
    obtain ⟨u0, r0, g0⟩ := hs.get 0 (by omega)
    obtain ⟨u1, r1, g1⟩ := hs.get 1 (by omega)
    have hfin := BC (BC (BT HB0.out hB) (w.heap.size + 1) 0 (by omega) (.int .i64 (c + l0))) (w.heap.size + 1) 1 (by omega) (.int .i64 (c + l1))
    clear hB k12 k14 hs oe og hk
    go_wp2_with fail
    exact bodyPost_ret (v := .agg #[.int .i64 (c + l0), .int .i64 (c + l1)]) (by simp [results, Tryz.results114, go_sem, r0, r1]) rfl ⟨rfl, hfin⟩
  · rw [hk] at z4
    have hE := HRR.out
    rw [hk] at hE
    simp only [if_true] at hE
    obtain ⟨n0, hn0⟩ : ∃ n0, (if c + l0 < c0 then c0 else c + l0) = n0 := ⟨_, rfl⟩
    obtain ⟨n1, hn1⟩ : ∃ n1, (if c1 < c + l1 then c1 else c + l1) = n1 := ⟨_, rfl⟩
    have e0 : max (c + l0) c0 = n0 := by rw [← hn0]; split <;> omega
    have e1 : min (c + l1) c1 = n1 := by rw [← hn1]; split <;> omega
    rw [e0, e1] at hE
    subst hE
    have hB2 := (hB.setCell (p := ⟨G5, 0, none⟩) hlY (.int .i64 n0)).setCell (p := ⟨G5, 1, none⟩) hlY (.int .i64 n1)
    have k15 := k14.set n0 n1
    obtain ⟨q2, q3, -, -⟩ := id k15
    have hs2 := HS.out.below hB2 hl0
    obtain ⟨u0, r0, g0⟩ := hs2.get 0 (by omega)
    obtain ⟨u1, r1, g1⟩ := hs2.get 1 (by omega)
    have hfin := BC (BC (BT HB0.out hB2) (w.heap.size + 1) 0 (by omega) (.int .i64 n0)) (w.heap.size + 1) 1 (by omega) (.int .i64 n1)
    clear hB k12 k14 k15 hs hs2 oe og hk e0 e1 hB2
    go_upto_region 6 with fail
    clear q0 q1 f0 f1 v0 v1 z4
    generalize (Y6.setCell ⟨G5, 0, none⟩ (.int .i64 n0)).setCell ⟨G5, 1, none⟩ (.int .i64 n1) = Y7 at *
    dsimp only at hfin ⊢
    go_wp2_with fail
    exact bodyPost_ret (v := .agg #[.int .i64 n0, .int .i64 n1]) (by simp [results, Tryz.results114, go_sem, r0, r1]) rfl ⟨rfl, hfin⟩
end Go.Proofs.YtdkegkacpdkjgaaGreat

namespace Go.Proofs.YtdkegkacpdkjgaaGreat
section
variable {P : Program} {l : List Oper} {Q : Exit → Act → World → Prop} {md : Region.Mode} {S : World → Prop} {F : Act → World → Prop}

theorem seq_mid {L2 : List (Nat × Bool)} {Mid : Act → World → Prop} : ∀ {L1 : List (Nat × Bool)} {a : Act} {w : World}, wpSeq P md l Q S Mid L1 a w → (∀ a' w', Mid a' w' → wpSeq P md l Q S F L2 a' w') → wpSeq P md l Q S F (L1 ++ L2) a w
  | [], _, _, h1, h2 => h2 _ _ h1
  | (i, b) :: L1, a, w, h1, h2 => by
    rw [List.cons_append]
    simp only [wpSeq] at h1 ⊢
    cases ho : l[i]? with
    | none => rw [ho] at h1; exact h1.elim
    | some o =>
      rw [ho] at h1
      dsimp only at h1 ⊢
      rcases h1 with ⟨hw, h⟩ | ⟨hw, h⟩
      · exact .inl ⟨hw, seq_mid h h2⟩
      · refine .inr ⟨hw, ?_⟩
        cases b
        · simp only [Bool.false_eq_true, if_false] at h ⊢
          exact Oper.wp_mono (fun a' w' h' => ⟨h'.1, fun hs => seq_mid (h'.2 hs) h2⟩) h
        · simp only [if_true] at h ⊢
          obtain ⟨v, hv, h⟩ := h
          exact ⟨v, hv, seq_mid h h2⟩
/-- Some slots are filled anew. -/
def fillA (a : Act) : List Nat → List Value → Act
  | s :: ss, x :: xs => fillA (a.put (some s) x) ss xs
  | _, _ => a
theorem seq_cut {L1 L2 : List (Nat × Bool)} (slots : List Nat) (R : List Value → World → Prop) {a : Act} {w : World}
    (h1 : wpSeq P md l Q S (fun a' w' => ∃ xs, a' = fillA a slots xs ∧ xs.length = slots.length ∧ R xs w') L1 a w)
    (h2 : ∀ xs w', xs.length = slots.length → R xs w' → wpSeq P md l Q S F L2 (fillA a slots xs) w') : wpSeq P md l Q S F (L1 ++ L2) a w :=
  seq_mid h1 fun a' w' ⟨xs, e, hl, hr⟩ => by rw [e]; exact h2 xs w' hl hr
/-- The operations of a region, by its number: a short name for them. -/
def regionAt (n : Nat) : Code → Option (List Oper)
  | .region id ops _ => if id = n then some ops.toList else none
  | .seq a b => (regionAt n a).orElse fun _ => regionAt n b
  | .cond _ a b => (regionAt n a).orElse fun _ => regionAt n b
  | .block _ b => regionAt n b
  | .loop b => regionAt n b
  | .scope b => regionAt n b
  | .rangeFunc _ _ a b => (regionAt n a).orElse fun _ => regionAt n b
  | _ => none
def opsAt (f : Func) (n : Nat) : List Oper := (regionAt n (f.body.getD .skip)).getD []
theorem seq_named {l0 : List Oper} {L : List (Nat × Bool)} {a : Act} {w : World} (h : l0 = l) (k : wpSeq P md l0 Q S F L a w) : wpSeq P md l Q S F L a w := h ▸ k
end
end Go.Proofs.YtdkegkacpdkjgaaGreat

namespace Go.Proofs.YtdkegkacpdkjgaaGreat
section
variable {P : Program} {l : List Oper} {Q : Exit → Act → World → Prop} {md : Region.Mode} {S : World → Prop} {F : Act → World → Prop}
theorem seq_free {L : List (Nat × Bool)} {a : Act} {w : World} (h : ∀ F' : Act → World → Prop, (∀ a w, F a w → F' a w) → ∀ Q' : Exit → Act → World → Prop, (∀ e a w, Q e a w → Q' e a w) → wpSeq P md l Q' S F' L a w) : wpSeq P md l Q S F L a w :=
  h F (fun _ _ h => h) Q (fun _ _ _ h => h)
end
end Go.Proofs.YtdkegkacpdkjgaaGreat

namespace Go.Proofs.YtdkegkacpdkjgaaGreat
open Go.RowKit

theorem crR_rng {ss : List St} {d : Bool} {R : Nat → Bool} {sc : Int} (h0 : 0 ≤ sc) (h1 : sc ≤ 1000) : ∀ k, k ≤ ss.length → (∀ i, i < ss.length → StOk (ss.getD i default) d) → (∀ i, i < ss.length → R i = true → (ss.getD i default).k = true) → -1099511627776 ≤ (crR ss sc R d k).1 ∧ (crR ss sc R d k).1 ≤ 1048576 ∧ -1081344 ≤ (crR ss sc R d k).2 ∧ (crR ss sc R d k).2 ≤ 1099511627776
  | 0, _, _, _ => by unfold crR; omega
  | k + 1, hk, hs, hr => by
    have ih := crR_rng h0 h1 k (by omega) hs hr
    unfold crR
    cases hR : R k
    · simp only [Bool.false_eq_true, if_false]; exact ih
    · simp only [if_true]
      have ok := hs k (by omega)
      have kk := hr k (by omega) hR
      have e := ok.e kk
      have f := ok.f kk
      have g := ok.g kk
      have b := bey_rng ok h0 h1
      omega
/-- Where a star can be with a scale. -/
def plcs (ss : List St) (a : Nat) (pn : Nat) (n : Nat) (d : Bool) (sc : Int) : Int × Int :=
  (min (plcR (ss.getD n default) sc (crR ss sc a.testBit d pn).1 d).1 (plcR (ss.getD n default) sc (crR ss sc a.testBit d pn).2 d).1, max (plcR (ss.getD n default) sc (crR ss sc a.testBit d pn).1 d).2 (plcR (ss.getD n default) sc (crR ss sc a.testBit d pn).2 d).2)
set_option maxRecDepth 100000 in
set_option maxHeartbeats 8000000 in
theorem places_any (p : Pl) (ss : List St) (a n : Nat) (sc : Int) (d : Bool) (w : World) (hm : PlAt p ss w) (hk : KnO p ss a) (hn : n < p.n) (h0 : 1 ≤ sc) (h1 : sc ≤ 1000) :
    Calls Tryz.prog 54 #[p.val, .int .i64 (n : Int), .int .i64 sc, .bool d] w (Ret (.agg #[.int .i64 (plcs ss a p.n n d sc).1, .int .i64 (plcs ss a p.n n d sc).2]) w) := by
  have HKN : Hid (∀ Y, Below w.heap.size w Y → Calls Tryz.prog 48 #[.agg #[.int .i64 p.lo, .int .i64 p.hi, .slice p.a p.n p.cap]] Y (Ret (.int .i64 (a : Int)) Y)) := fun Y hY => by
    have h := knownR_any p ss Y (hm.below hY (Nat.le_refl _)) hk.ok.n
    rw [hk.e] at h; exact h
  have HC : Hid (∀ Y, Below w.heap.size w Y → Calls Tryz.prog 47 #[.agg #[.int .i64 p.lo, .int .i64 p.hi, .slice p.a p.n p.cap], .int .i64 (a : Int), .int .i64 sc, .bool d] Y (Ret (.agg #[.int .i64 (crR ss sc a.testBit d p.n).1, .int .i64 (crR ss sc a.testBit d p.n).2]) Y)) := fun Y hY => corner_any p ss a sc d Y (hm.below hY (Nat.le_refl _)) (fun i hi => hk.ok.st i hi d) hk.ok.n hk.ok.lt hk.ok.k (by omega) h1
  have hcr := crR_rng (ss := ss) (d := d) (R := a.testBit) (sc := sc) (by omega) h1 p.n (by have := hm.nl; omega) (fun i hi => hk.ok.st i hi d) hk.ok.k
  unfold plcs
  generalize crR ss sc a.testBit d p.n = cr at *
  obtain ⟨c0, c1⟩ := cr
  dsimp only at hcr HC ⊢
  have HPL : Hid (∀ c Y, -2199023255552 ≤ c → c ≤ 2199023255552 → Calls Tryz.prog 114 #[.agg (ss.getD n default).cells, .int .i64 sc, .int .i64 c, .bool d] Y (Ret (.agg #[.int .i64 (plcR (ss.getD n default) sc c d).1, .int .i64 (plcR (ss.getD n default) sc c d).2]) Y)) := fun c Y q0 q1 => placeRR_any (ss.getD n default) sc c d Y (hk.ok.st n (by have := hm.nl; omega) d) (by omega) h1 q0 q1
  have HP0 : Hid (∀ Y, Calls Tryz.prog 114 #[.agg (ss.getD n default).cells, .int .i64 sc, .int .i64 c0, .bool d] Y (Ret (.agg #[.int .i64 (plcR (ss.getD n default) sc c0 d).1, .int .i64 (plcR (ss.getD n default) sc c0 d).2]) Y)) := fun Y => HPL.out c0 Y (by omega) (by omega)
  have HP1 : Hid (∀ Y, Calls Tryz.prog 114 #[.agg (ss.getD n default).cells, .int .i64 sc, .int .i64 c1, .bool d] Y (Ret (.agg #[.int .i64 (plcR (ss.getD n default) sc c1 d).1, .int .i64 (plcR (ss.getD n default) sc c1 d).2]) Y)) := fun Y => HPL.out c1 Y (by omega) (by omega)
  obtain ⟨pb, po, hpa, hpb, hct⟩ := hm.star (i := n) (by have := hm.nl; omega)
  generalize ss.getD n default = s at *
  generalize plcR s sc c0 d = r0 at *
  generalize plcR s sc c1 d = r1 at *
  obtain ⟨x0, x1⟩ := r0
  obtain ⟨y0, y1⟩ := r1
  dsimp only at HP0 HP1 ⊢
  obtain ⟨W0, hW0⟩ : ∃ X, (w.alloc (.cells #[.int .i64 p.lo, .int .i64 p.hi, .slice p.a p.n p.cap] 26)).alloc (.cells #[.int .i64 0, .int .i64 0] 23) = X := ⟨_, rfl⟩
  have hB0 : Below w.heap.size w W0 := by rw [← hW0]; exact BA (newB _ _) _
  have hQ : BoxP W0 w.heap.size p := by rw [← hW0]; exact (boxP_new w p _).grown (newB _ _)
  have hR : Slots (w.heap.size + 1) 2 W0 := by have := slots_new2r (w.alloc (.cells #[.int .i64 p.lo, .int .i64 p.hi, .slice p.a p.n p.cap] 26)) 23; rw [World.size_alloc, hW0] at this; exact this
  have hl0 := hR.lt2r
  have hl1 : w.heap.size < W0.heap.size := by omega
  have HB0 := Lib.hid hB0
  have HS := Lib.hid hR
  have hn0 : (0 : Int) ≤ (n : Int) := by omega
  have hn1 : (n : Int) < (p.n : Int) := by omega
  have hn2 : ¬ (p.n : Int) ≤ (n : Int) := by omega
  unfold Pl.val
  have hc2 := hQ.c2
  rw [hpa] at hc2
  have hI : Hid (∀ Y, Below W0.heap.size W0 Y → Y.cell? ⟨w.heap.size, 0, none⟩ = some (.int .i64 p.lo) ∧ Y.cell? ⟨w.heap.size, 1, none⟩ = some (.int .i64 p.hi) ∧ Y.cell? ⟨w.heap.size, 2, none⟩ = some (.slice p.a p.n p.cap)) := fun Y hY => by
    obtain ⟨z0, z1, z2⟩ := hQ.grown hY
    exact ⟨z0, z1, z2⟩
  have HST : Hid (∀ Y, Below W0.heap.size W0 Y → StAt s pb (po + n * 9) Y) := fun Y hY => hct.below (HB0.out.trans (hY.mono HB0.out.size)) hpb
  have HC2 := Lib.hid hc2
  clear hm hk hpa hpb hct hQ hR hc2 hB0
  go_enter Tryz.func54, Tryz.ntmps54
  go_upto_region 1 with fail
  clear hW0
  have hb0 : Below W0.heap.size W0 W0.drew := Below.drew (Below.refl _ _)
  go_cut [9] from 10 to 15 (fun x X => ∃ P : Nat, x = .pointer (some ⟨P, 0, none⟩) ∧ W0.heap.size ≤ P ∧ Spn2 X P c0 c1 ∧ Below W0.heap.size W0 X)
  case first =>
    refine wp_region_tree (.read 0 (.read 1 (.read 3 (.read 4 (.two 2 (.two 5 (.one 6 (.one 7 (.leaf))) 6 (.one 5 (.one 7 (.leaf)))) 6 (.one 2 (.one 5 (.one 7 (.leaf))))))))) (fun Y => Y.cell? ⟨w.heap.size, 0, none⟩ = some (.int .i64 p.lo) ∧ Y.cell? ⟨w.heap.size, 1, none⟩ = some (.int .i64 p.hi) ∧ Y.cell? ⟨w.heap.size, 2, none⟩ = some (.slice p.a p.n p.cap)) (by kernel_rfl) (by kernel_rfl) (fun _ _ d _ _ h => by cases d <;> exact h) (hI.out _ hb0) ?_
    generalize W0.drew = Y0 at *
    repeat (first | (refine tr_read rfl (by rfl) _ (fun w' hS => by (try dsimp only at hS); go_simp; (try with_reducible rfl)) ?_; (try simp only [Act.put, List.setIfInBounds_toArray, List.set_cons_zero, List.set_cons_succ])) | (refine tr_skip rfl (by rfl) ?_; (try simp only [Act.put, List.setIfInBounds_toArray, List.set_cons_zero, List.set_cons_succ])))
    refine ⟨?_, ?_⟩
    · skip
      refine tr_step rfl (by rfl) (fun K hK => ?_)
      go_simp
      refine (HKN.out Y0 (HB0.out.trans (hb0.mono HB0.out.size))).mono ?_
      rintro e Y1 ⟨rfl, hx⟩
      have hb1 := BT hb0 hx
      refine hK _ _ (hI.out _ hb1) ?_
      clear hK K hx hb0
      (try simp only [Act.put, List.setIfInBounds_toArray, List.set_cons_zero, List.set_cons_succ])
      refine ⟨?_, ?_⟩
      · skip
        refine tr_step rfl (by rfl) (fun K hK => ?_)
        go_simp
        refine (HC.out Y1 (HB0.out.trans (hb1.mono HB0.out.size))).mono ?_
        rintro e Y2 ⟨rfl, hx⟩
        have hb2 := BT hb1 hx
        refine hK _ _ (hI.out _ hb2) ?_
        clear hK K hx hb1
        (try simp only [Act.put, List.setIfInBounds_toArray, List.set_cons_zero, List.set_cons_succ])
        refine tr_step rfl (by rfl) (fun K hK => ?_)
        have hx := newB Y2 (.cells #[.int .i64 0, .int .i64 0] 23)
        have hs6 := slots_new2r Y2 23
        have hb3 := BT hb2 hx
        have hge6 := hb2.size
        go_simp
        refine hK _ _ (hI.out _ hb3) ?_
        clear hK K hx hb2
        generalize Y2.heap.size = g6 at *
        generalize Y2.alloc (.cells #[.int .i64 0, .int .i64 0] 23) = Y3 at *
        (try simp only [Act.put, List.setIfInBounds_toArray, List.set_cons_zero, List.set_cons_succ])
        refine tr_step rfl (by rfl) (fun K hK => ?_)
        have ka := spn2_slots hs6 c0 c1
        have hb4 := BC (BC hb3 g6 0 hge6 (.int .i64 c0)) g6 1 hge6 (.int .i64 c1)
        obtain ⟨u0, q0, f0⟩ := hs6.get 0 (by omega)
        obtain ⟨u1, q1, f1⟩ := hs6.get 1 (by omega)
        go_simp
        refine hK _ _ (hI.out _ hb4) ?_
        clear hK K u0 q0 f0 u1 q1 f1 hs6 hb3
        generalize (Y3.setCell ⟨g6, 0, none⟩ (.int .i64 c0)).setCell ⟨g6, 1, none⟩ (.int .i64 c1) = Y4 at *
        (try simp only [Act.put, List.setIfInBounds_toArray, List.set_cons_zero, List.set_cons_succ])
        show Exit.then _ _ Exit.normal _ _
        go_wp2_with fail
        go_meet
        exact ⟨g6, rfl, hge6, ka, hb4⟩
      · skip
        refine tr_step rfl (by rfl) (fun K hK => ?_)
        have hx := newB Y1 (.cells #[.int .i64 0, .int .i64 0] 23)
        have hs6 := slots_new2r Y1 23
        have hb5 := BT hb1 hx
        have hge6 := hb1.size
        go_simp
        refine hK _ _ (hI.out _ hb5) ?_
        clear hK K hx hb1
        generalize Y1.heap.size = g6 at *
        generalize Y1.alloc (.cells #[.int .i64 0, .int .i64 0] 23) = Y5 at *
        (try simp only [Act.put, List.setIfInBounds_toArray, List.set_cons_zero, List.set_cons_succ])
        refine tr_step rfl (by rfl) (fun K hK => ?_)
        go_simp
        refine (HC.out Y5 (HB0.out.trans (hb5.mono HB0.out.size))).mono ?_
        rintro e Y6 ⟨rfl, hx⟩
        have hb6 := BT hb5 hx
        replace hs6 := hs6.below hx hs6.lt2r
        refine hK _ _ (hI.out _ hb6) ?_
        clear hK K hx hb5
        (try simp only [Act.put, List.setIfInBounds_toArray, List.set_cons_zero, List.set_cons_succ])
        refine tr_step rfl (by rfl) (fun K hK => ?_)
        have ka := spn2_slots hs6 c0 c1
        have hb7 := BC (BC hb6 g6 0 hge6 (.int .i64 c0)) g6 1 hge6 (.int .i64 c1)
        obtain ⟨u0, q0, f0⟩ := hs6.get 0 (by omega)
        obtain ⟨u1, q1, f1⟩ := hs6.get 1 (by omega)
        go_simp
        refine hK _ _ (hI.out _ hb7) ?_
        clear hK K u0 q0 f0 u1 q1 f1 hs6 hb6
        generalize (Y6.setCell ⟨g6, 0, none⟩ (.int .i64 c0)).setCell ⟨g6, 1, none⟩ (.int .i64 c1) = Y7 at *
        (try simp only [Act.put, List.setIfInBounds_toArray, List.set_cons_zero, List.set_cons_succ])
        show Exit.then _ _ Exit.normal _ _
        go_wp2_with fail
        go_meet
        exact ⟨g6, rfl, hge6, ka, hb7⟩
    · skip
      refine tr_step rfl (by rfl) (fun K hK => ?_)
      have hx := newB Y0 (.cells #[.int .i64 0, .int .i64 0] 23)
      have hs6 := slots_new2r Y0 23
      have hb8 := BT hb0 hx
      have hge6 := hb0.size
      go_simp
      refine hK _ _ (hI.out _ hb8) ?_
      clear hK K hx hb0
      generalize Y0.heap.size = g6 at *
      generalize Y0.alloc (.cells #[.int .i64 0, .int .i64 0] 23) = Y8 at *
      (try simp only [Act.put, List.setIfInBounds_toArray, List.set_cons_zero, List.set_cons_succ])
      refine tr_step rfl (by rfl) (fun K hK => ?_)
      go_simp
      refine (HKN.out Y8 (HB0.out.trans (hb8.mono HB0.out.size))).mono ?_
      rintro e Y9 ⟨rfl, hx⟩
      have hb9 := BT hb8 hx
      replace hs6 := hs6.below hx hs6.lt2r
      refine hK _ _ (hI.out _ hb9) ?_
      clear hK K hx hb8
      (try simp only [Act.put, List.setIfInBounds_toArray, List.set_cons_zero, List.set_cons_succ])
      refine tr_step rfl (by rfl) (fun K hK => ?_)
      go_simp
      refine (HC.out Y9 (HB0.out.trans (hb9.mono HB0.out.size))).mono ?_
      rintro e Y10 ⟨rfl, hx⟩
      have hb10 := BT hb9 hx
      replace hs6 := hs6.below hx hs6.lt2r
      refine hK _ _ (hI.out _ hb10) ?_
      clear hK K hx hb9
      (try simp only [Act.put, List.setIfInBounds_toArray, List.set_cons_zero, List.set_cons_succ])
      refine tr_step rfl (by rfl) (fun K hK => ?_)
      have ka := spn2_slots hs6 c0 c1
      have hb11 := BC (BC hb10 g6 0 hge6 (.int .i64 c0)) g6 1 hge6 (.int .i64 c1)
      obtain ⟨u0, q0, f0⟩ := hs6.get 0 (by omega)
      obtain ⟨u1, q1, f1⟩ := hs6.get 1 (by omega)
      go_simp
      refine hK _ _ (hI.out _ hb11) ?_
      clear hK K u0 q0 f0 u1 q1 f1 hs6 hb10
      generalize (Y10.setCell ⟨g6, 0, none⟩ (.int .i64 c0)).setCell ⟨g6, 1, none⟩ (.int .i64 c1) = Y11 at *
      (try simp only [Act.put, List.setIfInBounds_toArray, List.set_cons_zero, List.set_cons_succ])
      show Exit.then _ _ Exit.normal _ _
      go_wp2_with fail
      go_meet
      exact ⟨g6, rfl, hge6, ka, hb11⟩
  case rest =>
    obtain ⟨P, rfl, hgP, ka, hb⟩ := hcut
    obtain ⟨X1, rfl⟩ : ∃ X1 : World, X1 = wc := ⟨_, rfl⟩
    clear hI HKN HC hb0
    have hI : Hid (∀ Y, Below X1.heap.size X1 Y → Y.cell? ⟨w.heap.size, 2, none⟩ = some (.slice (some ⟨pb, po, none⟩) p.n p.cap) ∧ Y.cell? ⟨P, 0, none⟩ = some (.int .i64 c0) ∧ Y.cell? ⟨P, 1, none⟩ = some (.int .i64 c1) ∧ Y.cell? ⟨pb, po + n * 9, none⟩ = some (.int .i64 s.x0) ∧ Y.cell? ⟨pb, po + n * 9 + 1, none⟩ = some (.int .i64 s.x1) ∧ Y.cell? ⟨pb, po + n * 9 + 2, none⟩ = some (.int .i64 s.y0) ∧ Y.cell? ⟨pb, po + n * 9 + 3, none⟩ = some (.int .i64 s.y1) ∧ Y.cell? ⟨pb, po + n * 9 + 4, none⟩ = some (.bool s.k) ∧ Y.cell? ⟨pb, po + n * 9 + 5, none⟩ = some (.int .i64 s.e0) ∧ Y.cell? ⟨pb, po + n * 9 + 6, none⟩ = some (.int .i64 s.e1) ∧ Y.cell? ⟨pb, po + n * 9 + 7, none⟩ = some (.int .i64 s.n0) ∧ Y.cell? ⟨pb, po + n * 9 + 8, none⟩ = some (.int .i64 s.n1)) := fun Y hY => by
      obtain ⟨z0, z1, z2, z3, z4, z5, z6, z7, z8⟩ := HST.out Y (BT hb hY)
      exact ⟨cellB HC2.out (BT hb hY), (ka.grown hY).c0, (ka.grown hY).c1, z0, z1, z2, z3, z4, z5, z6, z7, z8⟩
    have hb0 : Below X1.heap.size X1 X1.drew := Below.drew (Below.refl _ _)
    go_upto_region 2 with fail
    refine wp_region_seq [(0, true), (1, true), (2, true), (3, true), (4, true), (5, true), (6, true), (7, true), (8, true), (10, true), (11, true), (12, true), (13, true), (14, true), (15, true), (16, true), (17, true), (18, true), (9, false), (19, false), (20, false), (21, false)] (fun Y => Y.cell? ⟨w.heap.size, 2, none⟩ = some (.slice (some ⟨pb, po, none⟩) p.n p.cap) ∧ Y.cell? ⟨P, 0, none⟩ = some (.int .i64 c0) ∧ Y.cell? ⟨P, 1, none⟩ = some (.int .i64 c1) ∧ Y.cell? ⟨pb, po + n * 9, none⟩ = some (.int .i64 s.x0) ∧ Y.cell? ⟨pb, po + n * 9 + 1, none⟩ = some (.int .i64 s.x1) ∧ Y.cell? ⟨pb, po + n * 9 + 2, none⟩ = some (.int .i64 s.y0) ∧ Y.cell? ⟨pb, po + n * 9 + 3, none⟩ = some (.int .i64 s.y1) ∧ Y.cell? ⟨pb, po + n * 9 + 4, none⟩ = some (.bool s.k) ∧ Y.cell? ⟨pb, po + n * 9 + 5, none⟩ = some (.int .i64 s.e0) ∧ Y.cell? ⟨pb, po + n * 9 + 6, none⟩ = some (.int .i64 s.e1) ∧ Y.cell? ⟨pb, po + n * 9 + 7, none⟩ = some (.int .i64 s.n0) ∧ Y.cell? ⟨pb, po + n * 9 + 8, none⟩ = some (.int .i64 s.n1)) (by kernel_rfl) (by kernel_rfl) (fun _ _ d _ _ h => by cases d <;> exact h) (hI.out _ hb0) ?_
    refine seq_free (fun F HF Q HQ => ?_)
    generalize X1.drew = X2 at *
    repeat (first | (refine seq_read rfl (by rfl) _ (fun w' hS => by (try dsimp only at hS); go_simp; (try with_reducible rfl)) ?_; (try simp only [Act.put, List.setIfInBounds_toArray, List.set_cons_zero, List.set_cons_succ])) | (refine seq_skip rfl (by rfl) ?_; (try simp only [Act.put, List.setIfInBounds_toArray, List.set_cons_zero, List.set_cons_succ])))
    refine seq_do rfl (by rfl) (fun K hK => ?_)
    go_simp
    refine (HP0.out X2).mono ?_
    rintro e X3 ⟨rfl, hx⟩
    have hb3 := BT hb0 hx
    refine hK _ _ (hI.out _ hb3) ?_
    clear hK K hx
    (try simp only [Act.put, List.setIfInBounds_toArray, List.set_cons_zero, List.set_cons_succ])
    repeat (first | (refine seq_read rfl (by rfl) _ (fun w' hS => by (try dsimp only at hS); go_simp; (try with_reducible rfl)) ?_; (try simp only [Act.put, List.setIfInBounds_toArray, List.set_cons_zero, List.set_cons_succ])) | (refine seq_skip rfl (by rfl) ?_; (try simp only [Act.put, List.setIfInBounds_toArray, List.set_cons_zero, List.set_cons_succ])))
    refine seq_do rfl (by rfl) (fun K hK => ?_)
    go_simp
    refine (HP1.out X3).mono ?_
    rintro e X4 ⟨rfl, hx⟩
    have hb4 := BT hb3 hx
    refine hK _ _ (hI.out _ hb4) ?_
    clear hK K hx
    (try simp only [Act.put, List.setIfInBounds_toArray, List.set_cons_zero, List.set_cons_succ])
    repeat (first | (refine seq_read rfl (by rfl) _ (fun w' hS => by (try dsimp only at hS); go_simp; (try with_reducible rfl)) ?_; (try simp only [Act.put, List.setIfInBounds_toArray, List.set_cons_zero, List.set_cons_succ])) | (refine seq_skip rfl (by rfl) ?_; (try simp only [Act.put, List.setIfInBounds_toArray, List.set_cons_zero, List.set_cons_succ])))
    refine seq_do rfl (by rfl) (fun K hK => ?_)
    go_simp
    refine (hull_any x0 x1 y0 y1 false X4).mono ?_
    rintro e X5 ⟨rfl, hx⟩
    have hb5 := BT hb4 hx
    refine hK _ _ (hI.out _ hb5) ?_
    clear hK K hx
    simp only [Bool.false_eq_true, if_false]
    (try simp only [Act.put, List.setIfInBounds_toArray, List.set_cons_zero, List.set_cons_succ])
    repeat (first | (refine seq_read rfl (by rfl) _ (fun w' hS => by (try dsimp only at hS); go_simp; (try with_reducible rfl)) ?_; (try simp only [Act.put, List.setIfInBounds_toArray, List.set_cons_zero, List.set_cons_succ])) | (refine seq_skip rfl (by rfl) ?_; (try simp only [Act.put, List.setIfInBounds_toArray, List.set_cons_zero, List.set_cons_succ])))
    have hB5 := BT hb hb5
    have hs := HS.out.below hB5 hl0
    obtain ⟨u0, r0, g0⟩ := hs.get 0 (by omega)
    obtain ⟨u1, r1, g1⟩ := hs.get 1 (by omega)
    have hfin := BC (BC (BT HB0.out hB5) (w.heap.size + 1) 0 (by omega) (.int .i64 (min x0 y0))) (w.heap.size + 1) 1 (by omega) (.int .i64 (max x1 y1))
    refine seq_last rfl (by rfl) (by kernel_rfl) (fun K hK => ?_)
    go_simp
    refine hK _ _ ?_
    clear hK K
    (try simp only [Act.put, List.setIfInBounds_toArray, List.set_cons_zero, List.set_cons_succ])
    refine HF _ _ ?_
    clear hI hb0 hb3 hb4 hb5 hB5
    first | show Exit.inBlock _ _ Exit.normal _ _ | show Exit.then _ _ Exit.normal _ _ | skip
    go_wp2_with fail
    exact bodyPost_ret (v := .agg #[.int .i64 (min x0 y0), .int .i64 (max x1 y1)]) (by simp [results, Tryz.results54, go_sem, r0, r1]) rfl ⟨rfl, hfin⟩
end Go.Proofs.YtdkegkacpdkjgaaGreat

namespace Go.Proofs.YtdkegkacpdkjgaaGreat
open Go.RowKit

theorem in_any (n lo hi : Int) (w : World) : Calls Tryz.prog 66 #[.int .i64 n, .int .i64 lo, .int .i64 hi] w (Ret (.bool (decide (lo ≤ n) && decide (n ≤ hi))) w) := by
  by_cases h1 : lo ≤ n
  · by_cases h2 : n ≤ hi
    · go_enter Tryz.func66, Tryz.ntmps66
      go_wp2_with fail
      go_ret
      exact ⟨by simp [h1, h2], Below.refl _ _⟩
    · go_enter Tryz.func66, Tryz.ntmps66
      go_wp2_with fail
      go_ret
      exact ⟨by simp [h2], Below.refl _ _⟩
  · go_enter Tryz.func66, Tryz.ntmps66
    go_wp2_with fail
    go_ret
    exact ⟨by simp; omega, Below.refl _ _⟩
set_option maxRecDepth 100000 in
theorem isStar_any (p : Pl) (n : Int) (w : World) (hn : p.n ≤ 1000000000) : Calls Tryz.prog 53 #[p.val, .int .i64 n] w (Ret (.bool (decide (0 ≤ n) && decide (n ≤ (p.n : Int) - 1))) w) := by
  unfold Pl.val
  obtain ⟨W0, hW0⟩ : ∃ X, w.alloc (.cells #[.int .i64 p.lo, .int .i64 p.hi, .slice p.a p.n p.cap] 26) = X := ⟨_, rfl⟩
  have hB0 : Below w.heap.size w W0 := by rw [← hW0]; exact newB _ _
  have hQ : BoxP W0 w.heap.size p := by rw [← hW0]; exact boxP_new w p _
  obtain ⟨b0, b1, b2⟩ := id hQ
  have hw : IntKind.i64.wrap ((p.n : Int) - 1) = (p.n : Int) - 1 := by rw [IntWalk.i64_in _ (by omega)]
  clear hQ
  go_enter Tryz.func53, Tryz.ntmps53
  go_wp2_with fail
  clear hW0 b0 b1 b2
  refine (in_any n 0 ((p.n : Int) - 1) W0).mono ?_
  rintro e w1 ⟨rfl, hx⟩
  go_wp2_with fail
  go_ret
  exact ⟨rfl, BT hB0 hx⟩
end Go.Proofs.YtdkegkacpdkjgaaGreat

namespace Go.Proofs.YtdkegkacpdkjgaaGreat
open Go.RowKit

/-- The least span with what the first k scales tell. -/
def hl (f : Int → Int × Int) (L : List Int) : Nat → Int × Int
  | 0 => (0, 0)
  | k + 1 => (if ((k : Int) == 0) then (f (L.getD k 0)).1 else min (hl f L k).1 (f (L.getD k 0)).1, if ((k : Int) == 0) then (f (L.getD k 0)).2 else max (hl f L k).2 (f (L.getD k 0)).2)
theorem hl_step (f : Int → Int × Int) (L : List Int) {k : Nat} {b : Bool} (h : ((k : Int) == 0) = b) : hl f L (k + 1) = (if b then (f (L.getD k 0)).1 else min (hl f L k).1 (f (L.getD k 0)).1, if b then (f (L.getD k 0)).2 else max (hl f L k).2 (f (L.getD k 0)).2) := by
  subst h; rfl
def tupR (o : Except Int (List Int)) (f g : Int → Int × Int) : (Int × Int) × (Int × Int) × Int := match o with
  | .error c => ((0, 0), (0, 0), c)
  | .ok L => (hl f L L.length, hl g L L.length, 0)
theorem doubtR_err {p : Pl} {ss : List St} {a : Nat} {valid : Bool} {c : Int} (h : doubtR p ss a valid = .error c) : c ≠ 0 := by
  unfold doubtR at h
  split at h
  · rename_i ho
    injection h with h
    rw [← h]; exact openR_err ho
  · split at h
    · injection h with h; omega
    · cases h
theorem doubtR_ok {p : Pl} {ss : List St} {a : Nat} {valid : Bool} {L : List Int} (h : doubtR p ss a valid = .ok L) : openR p ss a valid = .ok L ∧ a ≠ 0 := by
  unfold doubtR at h
  split at h
  · cases h
  · rename_i ho
    split at h
    · cases h
    · rename_i ha
      injection h with h
      exact ⟨by rw [ho, h], ha⟩
theorem scTo_mem {B : Int → Bool} {lo x : Int} : ∀ {k : Nat}, x ∈ scTo B lo k → lo ≤ x ∧ x < lo + k ∧ B x = true
  | 0, h => by simp [scTo] at h
  | k + 1, h => by
    unfold scTo at h
    split at h
    · rename_i hb
      rcases List.mem_append.1 h with h | h
      · have := scTo_mem h; exact ⟨this.1, by omega, this.2.2⟩
      · simp at h; subst h; exact ⟨by omega, by omega, hb⟩
    · have := scTo_mem h; exact ⟨this.1, by omega, this.2.2⟩
theorem scL_rng (p : Pl) (ss : List St) (a : Nat) {k : Nat} (h : k < (scL p ss a).length) : p.lo ≤ (scL p ss a).getD k 0 ∧ (scL p ss a).getD k 0 ≤ p.hi := by
  have hm : (scL p ss a).getD k 0 ∈ scL p ss a := by
    rw [List.getD_eq_getElem?_getD, List.getElem?_eq_getElem h]; exact List.getElem_mem h
  have := scTo_mem hm
  omega
end Go.Proofs.YtdkegkacpdkjgaaGreat
