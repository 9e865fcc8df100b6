/- A measure that is looked at: what its settings tell, and the counts. -/
import Derived.Test.YtmfbkgdlfackcaaCnt
import Derived.Test.YtmfbkgdlfackcaaTrav
import Derived.Test.YtmfbkgdlfackcaaSeq
import Derived.Test.YtmfbkgdlfackcaaEv
namespace Go.Proofs.Ytmfbkgdlfackcaa
open Go.RowKit

/-- The cells of a measure. -/
structure Hd where
  a : Option Addr
  n : Nat
  cap : Nat
  eLo : Int
  eHi : Int
  images : Int
  sLo : Int
  sHi : Int
  sa : Option Addr
  ns : Nat
  scap : Nat
def Hd.val (h : Hd) : Value := .agg #[.slice h.a h.n h.cap, .int .i64 h.eLo, .int .i64 h.eHi, .int .i64 h.images, .int .i64 h.sLo, .int .i64 h.sHi, .slice h.sa h.ns h.scap]
abbrev Tell := Bool × Int × Int × Int
def tellV (t : Tell) : Value := .iface (if t.1 then 122 else 123) (.agg #[.int .i64 t.2.1, .int .i64 t.2.2.1, .int .i64 t.2.2.2])
/-- Block L is a measure that is looked at; all of it was made since w0. -/
structure IsLook (w0 w : World) (L mb : Nat) (h : Hd) (tv : Value) (ts : List Tell) (cs : List Cnt) : Prop where
  nl : w0.heap.size ≤ L
  nm : w0.heap.size ≤ mb
  cells : w.heap[L]? = some (.cells #[.slice h.a h.n h.cap, .int .i64 h.eLo, .int .i64 h.eHi, .int .i64 h.images, .int .i64 h.sLo, .int .i64 h.sHi, .slice h.sa h.ns h.scap, tv, .map (some mb)] 95 (0, 0))
  row : w.ownsRow w0.heap.size 99 1 tv ts.length (ts.map tellV)
  map : IsMap w mb cs
theorem IsLook.lt {w0 w : World} {L mb : Nat} {h : Hd} {tv : Value} {ts : List Tell} {cs : List Cnt} (k : IsLook w0 w L mb h tv ts cs) : L < w.heap.size := (Array.getElem?_eq_some_iff.1 k.cells).1
theorem IsLook.cell {w0 w : World} {L mb : Nat} {h : Hd} {tv : Value} {ts : List Tell} {cs : List Cnt} (k : IsLook w0 w L mb h tv ts cs) :
    w.cell? ⟨L, 0, none⟩ = some (.slice h.a h.n h.cap) ∧ w.cell? ⟨L, 1, none⟩ = some (.int .i64 h.eLo) ∧ w.cell? ⟨L, 2, none⟩ = some (.int .i64 h.eHi) ∧ w.cell? ⟨L, 3, none⟩ = some (.int .i64 h.images) ∧
    w.cell? ⟨L, 4, none⟩ = some (.int .i64 h.sLo) ∧ w.cell? ⟨L, 5, none⟩ = some (.int .i64 h.sHi) ∧ w.cell? ⟨L, 6, none⟩ = some (.slice h.sa h.ns h.scap) ∧ w.cell? ⟨L, 7, none⟩ = some tv ∧ w.cell? ⟨L, 8, none⟩ = some (.map (some mb)) ∧
    w.frozen? ⟨L, 7, none⟩ = false := by
  refine ⟨?_, ?_, ?_, ?_, ?_, ?_, ?_, ?_, ?_, frozen_of_row w L 7 _ 95 k.cells⟩ <;> rw [cell_of_row w L _ _ _ _ k.cells] <;> rfl
theorem IsLook.grown {w0 w w' : World} {L mb : Nat} {h : Hd} {tv : Value} {ts : List Tell} {cs : List Cnt} (k : IsLook w0 w L mb h tv ts cs) (hb : Below w.heap.size w w') : IsLook w0 w' L mb h tv ts cs :=
  ⟨k.nl, k.nm, (hb.block L k.lt).trans k.cells, k.row.kept (row := none) ⟨hb.os, hb.tape, hb.output, hb.size, fun i hi _ => hb.block i hi⟩ (by cases tv.ownBlock <;> simp), k.map.kept (hb.block mb k.map.lt)⟩

theorem slook {N mb : Nat} {W w w' : World} {cs : List Cnt} (hB : Below w.heap.size w w') (h : N ≤ w.heap.size ∧ ∀ b o, b < N → w.cell? ⟨b, o, none⟩ = W.cell? ⟨b, o, none⟩) (hm : IsMap w mb cs) :
    (N ≤ w'.heap.size ∧ ∀ b o, b < N → w'.cell? ⟨b, o, none⟩ = W.cell? ⟨b, o, none⟩) ∧ ∀ k, (Instr.lookup 93 (.map (some mb)) (.int .i64 k) false).run Try.prog w' = .ok (.agg #[.int .i64 (getC k cs).1, .int .i64 (getC k cs).2]) w' :=
  ⟨keepS hB h, fun k => run_lookup93 (hm.kept (hB.block mb hm.lt)) k⟩
theorem tmps_eta (x : Array Value) (n : Nat) (h : x.size = n) : x = ((List.range n).map fun k => x.getD k undef).toArray := by
  subst h
  apply Array.ext
  · simp
  · intro i h1 h2
    simp [Array.getElem?_eq_getElem h1]
theorem IsLook.bx {w0 w w' : World} {L mb B : Nat} {h : Hd} {tv : Value} {ts : List Tell} {cs : List Cnt} (k : IsLook w0 w L mb h tv ts cs) (hb : BX B w w') (h1 : L ≠ B) (h2 : mb ≠ B) (h3 : ∀ g, tv.ownBlock = some g → g ≠ B) : IsLook w0 w' L mb h tv ts cs :=
  ⟨k.nl, k.nm, (hb.block L k.lt h1).trans k.cells, k.row.kept (row := some B) ⟨hb.os, hb.tape, hb.output, hb.size, fun i hi hn => hb.block i hi (fun e => hn (by rw [e]))⟩ (by
    cases hv : tv.ownBlock with
    | none => exact .inl rfl
    | some g => exact .inr (fun e => h3 g hv (by simpa using e))), k.map.kept (hb.block mb k.map.lt h2)⟩
theorem IsLook.apart {w0 w : World} {L mb : Nat} {h : Hd} {tv : Value} {ts : List Tell} {cs : List Cnt} (k : IsLook w0 w L mb h tv ts cs) : L ≠ mb ∧ ∀ g, tv.ownBlock = some g → g ≠ L ∧ g ≠ mb ∧ w0.heap.size ≤ g ∧ g < w.heap.size := by
  obtain ⟨es, c, hm, _⟩ := k.map
  refine ⟨fun e => ?_, fun g hg => ⟨fun e => ?_, fun e => ?_, k.row.lt g hg⟩⟩
  · have := k.cells; rw [e, hm] at this; cases this
  · rcases k.row.2 with ⟨hv, _⟩ | ⟨g', cap, cur, hv, _, hh, _⟩
    · rw [hv] at hg; simp [Value.ownBlock] at hg
    · rw [hv] at hg; simp [Value.ownBlock] at hg
      subst hg; subst e
      have := k.cells; rw [hh] at this; injection this with this; injection this with h1 h2; cases h2
  · rcases k.row.2 with ⟨hv, _⟩ | ⟨g', cap, cur, hv, _, hh, _⟩
    · rw [hv] at hg; simp [Value.ownBlock] at hg
    · rw [hv] at hg; simp [Value.ownBlock] at hg
      subst hg; subst e
      rw [hh] at hm; cases hm
theorem row_succ {w : World} {base : Nat} {v : Value} {n : Nat} {xs : List Value} (h : w.ownsRow base 99 1 v (n + 1) xs) : ∃ g cap, v = .slice (some ⟨g, 0, none⟩) (n + 1) cap := by
  rcases h.2 with ⟨_, h0⟩ | ⟨g, cap, cur, hv, _⟩
  · omega
  · exact ⟨g, cap, hv⟩
theorem info99 : (Try.prog.info? 99).map (fun i => (i.zero, i.size, i.bytes)) = some (some .nilIface, 1, 16) := by kernel_rfl
/-- Behind the store of the tells: the measure that is looked at, with one more. -/
theorem look_put {w0 w w3 : World} {L mb : Nat} {h : Hd} {tv v' : Value} {ts : List Tell} {cs : List Cnt} {t : Tell} (k : IsLook w0 w L mb h tv ts cs) (hg : w.grownBy w3 tv.ownBlock)
    (hown : w3.ownsRow w0.heap.size 99 1 v' (ts.length + 1) (ts.map tellV ++ [tellV t])) : IsLook w0 (w3.setCell ⟨L, 7, none⟩ v') L mb h v' (ts ++ [t]) cs := by
  obtain ⟨hap, hgs⟩ := k.apart
  have hne : some L ≠ tv.ownBlock := fun e => (hgs L e.symm).1 rfl
  have hne2 : some mb ≠ tv.ownBlock := fun e => (hgs mb e.symm).2.1 rfl
  have hc3 := (hg.block L k.lt hne).trans k.cells
  have hm3 := k.map.kept (hg.block mb k.map.lt hne2)
  refine ⟨k.nl, k.nm, ?_, ?_, hm3.kept (Below.heap_setCell _ _ _ _ (Ne.symm hap))⟩
  · rw [heap_setCell_same _ _ _ _ _ _ hc3]; rfl
  · have : v'.ownBlock ≠ some L := by
      rcases hown.2 with ⟨_, h0⟩ | ⟨g', cap, cur, hv, _, hh, _⟩
      · omega
      · rw [hv]; intro e; simp [Value.ownBlock] at e; subst e
        rw [hc3] at hh; injection hh with hh; injection hh with h1 h2; cases h2
    have hk := hown.kept (w' := w3.setCell ⟨L, 7, none⟩ v') (row := some L) ⟨rfl, rfl, rfl, by simp, fun i _ hn => Below.heap_setCell _ _ _ _ (fun e => hn (by rw [e]))⟩ (.inr this)
    simpa using hk
def bump (rev : Bool) (p : Int × Int) : Int × Int := if rev then (p.1, wrap64 (p.2 + 1)) else (wrap64 (p.1 + 1), p.2)

set_option maxHeartbeats 2000000 in
theorem ladd_any (w0 : World) (L mb : Nat) (h : Hd) (tv : Value) (ts : List Tell) (cs : List Cnt) (xs : List (Int × Int)) (im rd : Int) (rev : Bool) (w : World)
    (hL : IsLook w0 w L mb h tv ts cs) (hx : Spans w0 h.a xs) (hB : Below w0.heap.size w0 w) (hn : xs.length = h.n) (hr0 : 0 ≤ rd) (hr1 : rd ≤ 9223372036854775807) (hr2 : rd / 1000 < h.n) (ht : ts.length < 1000) :
    Calls Try.prog 96 #[.pointer (some ⟨L, 0, none⟩), .agg #[.int .i64 im, .int .i64 rd, .bool rev]] w (fun e w' => e = .returned (.tuple #[]) ∧ Below w0.heap.size w0 w' ∧ ∃ tv', IsLook w0 w' L mb h tv' (ts ++ [(rev, im, trav rd (xs.getD (rd / 1000).toNat (0, 0)).1 h.eLo, trav rd (xs.getD (rd / 1000).toNat (0, 0)).2 h.eHi)]) (setC im (bump rev (getC im cs)) cs)) := by
  have hlt := hL.lt
  have HTL := Lib.hid ht; clear ht
  obtain ⟨k0, k1, k2, k3, k4, k5, k6, k7, k8, k9⟩ := hL.cell
  have HL := Lib.hid hL; clear hL
  have HX := Lib.hid hx; clear hx
  have HB := Lib.hid hB; clear hB
  have HN := Lib.hid hn; clear hn
  have HR := Lib.hid (And.intro hr0 (And.intro hr1 hr2)); clear hr0 hr1 hr2
  obtain ⟨ha, hnn, hcap, heLo, heHi, him, hsLo, hsHi, hsa, hns, hscap⟩ := h
  dsimp only at k0 k1 k2 k3 k4 k5 k6
  obtain ⟨b, o, q, hab, hb0, hq0, hqn, e1, e2⟩ : ∃ b o q : Nat, ha = some ⟨b, o, none⟩ ∧ b < w0.heap.size ∧ rd / 1000 = q ∧ q < hnn ∧
      w0.cell? ⟨b, o + q * 2, none⟩ = some (.int .i64 (xs.getD q (0, 0)).1) ∧ w0.cell? ⟨b, o + q * 2 + 1, none⟩ = some (.int .i64 (xs.getD q (0, 0)).2) := by
    obtain ⟨r0, r1, r2⟩ := HR.out
    have hn := HN.out
    rcases HX.out with h | ⟨b, o, h1, h2, h3⟩
    · exfalso; rw [h] at hn; simp at hn; dsimp only at r2; omega
    · dsimp only at r2 h1 hn
      have hq : (rd / 1000).toNat < xs.length := by omega
      exact ⟨b, o, (rd / 1000).toNat, h1, h2, by omega, by omega, (h3 _ hq).1, (h3 _ hq).2⟩
  subst hab
  have hqx : Hid (q = (rd / 1000).toNat) := by show q = _; omega
  rw [← HB.out.cell (p := ⟨b, o + q * 2, none⟩) hb0] at e1
  rw [← HB.out.cell (p := ⟨b, o + q * 2 + 1, none⟩) hb0] at e2
  have hbw : b < w.heap.size := by have := HB.out.size; omega
  have HT : Hid (∀ Y, Below w.heap.size w Y → Calls Try.prog 53 #[.agg #[.slice (some ⟨b, o, none⟩) hnn hcap, .int .i64 heLo, .int .i64 heHi], .int .i64 rd] Y
      (Ret (.agg #[.int .i64 (trav rd (xs.getD q (0, 0)).1 heLo), .int .i64 (trav rd (xs.getD q (0, 0)).2 heHi)]) Y)) := fun Y hY =>
    travel_any b o hnn hcap q rd heLo heHi _ _ Y HR.out.1 HR.out.2.1 hq0 hqn (by have := hY.size; omega)
      ((hY.cell (p := ⟨b, o + q * 2, none⟩) hbw).trans e1) ((hY.cell (p := ⟨b, o + q * 2 + 1, none⟩) hbw).trans e2)
  clear e1 e2 hq0
  dsimp only
  rw [← hqx.out]
  generalize trav rd (xs.getD q (0, 0)).1 heLo = lo at *
  generalize trav rd (xs.getD q (0, 0)).2 heHi = hi at *
  have hlb : Hid (∀ w', IsMap w' mb cs → ∀ k, (Instr.lookup 93 (.map (some mb)) (.int .i64 k) false).run Try.prog w' = .ok (.agg #[.int .i64 (getC k cs).1, .int .i64 (getC k cs).2]) w') := fun w' h k => run_lookup93 h k
  go_enter Try.func96, Try.ntmps96
  go_wp2_with fail
  obtain ⟨W, hW⟩ : ∃ W, w.alloc (Obj.cells #[Value.int IntKind.i64 im, Value.int IntKind.i64 rd, Value.bool rev] 44) = W := ⟨_, rfl⟩
  have s0 : W.heap.size = w.heap.size + 1 := by rw [← hW]; simp
  have c0_0 : W.cell? ⟨w.heap.size, 0, none⟩ = some (Value.int IntKind.i64 im) := by rw [← hW]; simp [go_sem]
  have c0_1 : W.cell? ⟨w.heap.size, 1, none⟩ = some (Value.int IntKind.i64 rd) := by rw [← hW]; simp [go_sem]
  have c0_2 : W.cell? ⟨w.heap.size, 2, none⟩ = some (Value.bool rev) := by rw [← hW]; simp [go_sem]
  have hBW : Below w.heap.size w W := by rw [← hW]; (repeat (first | assumption | exact Below.refl _ _ | refine BA ?_ _ | refine BC ?_ _ _ (by omega) _ | refine Below.drew ?_ | refine BT ?_ (by assumption)))
  have d0 : W.cell? ⟨L, 0, none⟩ = some (.slice (some ⟨b, o, none⟩) hnn hcap) := by rw [← hW]; simp [go_sem, hlt, k0]
  have d1 : W.cell? ⟨L, 1, none⟩ = some (.int .i64 heLo) := by rw [← hW]; simp [go_sem, hlt, k1]
  have d2 : W.cell? ⟨L, 2, none⟩ = some (.int .i64 heHi) := by rw [← hW]; simp [go_sem, hlt, k2]
  have d7 : W.cell? ⟨L, 7, none⟩ = some tv := by rw [← hW]; simp [go_sem, hlt, k7]
  have d8 : W.cell? ⟨L, 8, none⟩ = some (.map (some mb)) := by rw [← hW]; simp [go_sem, hlt, k8]
  have HLW : IsLook w0 W L mb ⟨some ⟨b, o, none⟩, hnn, hcap, heLo, heHi, him, hsLo, hsHi, hsa, hns, hscap⟩ tv ts cs := HL.out.grown hBW
  have hl1 : L < w.heap.size + 1 := by omega
  rw [hW]
  clear k0 k1 k2 k3 k4 k5 k6 k7 k8 k9
  have hHW := Lib.hid HLW
  have HBW := Lib.hid hBW
  clear HLW hBW
  have hS : Hid (w.heap.size + 1 ≤ W.heap.size ∧ ∀ b' o', b' < w.heap.size + 1 → W.cell? ⟨b', o', none⟩ = W.cell? ⟨b', o', none⟩) := ⟨(by (first | omega | (simp; done) | (simp; omega))), fun _ _ _ => rfl⟩
  refine wp_region_seq [(0, true), (1, true), (2, true), (3, true), (4, true), (5, true), (6, true), (7, false), (8, false)]
    (fun w' => (w.heap.size + 1 ≤ w'.heap.size ∧ ∀ b' o', b' < w.heap.size + 1 → w'.cell? ⟨b', o', none⟩ = W.cell? ⟨b', o', none⟩) ∧ ∀ k, (Instr.lookup 93 (.map (some mb)) (.int .i64 k) false).run Try.prog w' = .ok (.agg #[.int .i64 (getC k cs).1, .int .i64 (getC k cs).2]) w') (by kernel_rfl) (by kernel_rfl) (fun _ _ d _ _ h => by cases d <;> exact h) (slook (by (repeat (first | assumption | exact Below.refl _ _ | refine BA ?_ _ | refine BC ?_ _ _ (by omega) _ | refine Below.drew ?_ | refine BT ?_ (by assumption)))) hS.out hHW.out.map) ?_
  repeat (first | (refine seq_read rfl (by rfl) _ (fun w' hS => by (try dsimp only at hS); go_simp; (try with_reducible rfl)) ?_; (try simp only [Act.put, List.setIfInBounds_toArray, List.set_cons_zero, List.set_cons_succ])) | (refine seq_skip rfl (by rfl) ?_; (try simp only [Act.put, List.setIfInBounds_toArray, List.set_cons_zero, List.set_cons_succ])))
  (refine seq_do rfl (by rfl) (fun K hK => ?_); go_simp)
  refine hK _ _ (slook (by (repeat (first | assumption | exact Below.refl _ _ | refine BA ?_ _ | refine BC ?_ _ _ (by omega) _ | refine Below.drew ?_ | refine BT ?_ (by assumption)))) hS.out hHW.out.map) ?_
  clear hK K
  (refine seq_do rfl (by rfl) (fun K hK => ?_); go_simp)
  refine hK _ _ (slook (by (repeat (first | assumption | exact Below.refl _ _ | refine BA ?_ _ | refine BC ?_ _ _ (by omega) _ | refine Below.drew ?_ | refine BT ?_ (by assumption)))) hS.out hHW.out.map) ?_
  clear hK K
  apply seq_end
  generalize hgu : (getC im cs).1 = gu
  generalize hgr : (getC im cs).2 = gr
  have HGU := Lib.hid hgu; clear hgu
  have HGR := Lib.hid hgr; clear hgr
  go_wp2_with fail
  have hWX : Below W.heap.size W (W.alloc (Obj.cells #[Value.int IntKind.i64 gu, Value.int IntKind.i64 gr] 97)).drew := by (repeat (first | assumption | exact Below.refl _ _ | refine BA ?_ _ | refine BC ?_ _ _ (by omega) _ | refine Below.drew ?_ | refine BT ?_ (by assumption)))
  have hLX := hHW.out.grown hWX
  have hBX : Below w.heap.size w (W.alloc (Obj.cells #[Value.int IntKind.i64 gu, Value.int IntKind.i64 gr] 97)).drew := BT HBW.out hWX
  obtain ⟨X, hX⟩ : ∃ X, (W.alloc (Obj.cells #[Value.int IntKind.i64 gu, Value.int IntKind.i64 gr] 97)).drew = X := ⟨_, rfl⟩
  have t0 : X.heap.size = w.heap.size + 2 := by rw [← hX]; simp [s0]
  have x0 : X.cell? ⟨L, 0, none⟩ = some (.slice (some ⟨b, o, none⟩) hnn hcap) := by rw [hX] at hLX; exact hLX.cell.1
  have x1 : X.cell? ⟨L, 1, none⟩ = some (.int .i64 heLo) := by rw [hX] at hLX; exact hLX.cell.2.1
  have x2 : X.cell? ⟨L, 2, none⟩ = some (.int .i64 heHi) := by rw [hX] at hLX; exact hLX.cell.2.2.1
  have y0 : X.cell? ⟨w.heap.size, 0, none⟩ = some (.int .i64 im) := by rw [← hX]; simp [go_sem, s0, c0_0]
  have y1 : X.cell? ⟨w.heap.size, 1, none⟩ = some (.int .i64 rd) := by rw [← hX]; simp [go_sem, s0, c0_1]
  have y2 : X.cell? ⟨w.heap.size, 2, none⟩ = some (.bool rev) := by rw [← hX]; simp [go_sem, s0, c0_2]
  have z0 : X.cell? ⟨w.heap.size + 1, 0, none⟩ = some (.int .i64 gu) := by rw [← hX, ← s0]; simp [go_sem]
  have z1 : X.cell? ⟨w.heap.size + 1, 1, none⟩ = some (.int .i64 gr) := by rw [← hX, ← s0]; simp [go_sem]
  have zf0 : X.frozen? ⟨w.heap.size + 1, 0, none⟩ = false := by rw [← hX, ← s0]; simp [go_sem]
  have zf1 : X.frozen? ⟨w.heap.size + 1, 1, none⟩ = false := by rw [← hX, ← s0]; simp [go_sem]
  clear c0_0 c0_1 c0_2 d0 d1 d2 d7 d8 hW hWX
  rw [hX] at hLX hBX ⊢
  clear hX hS HBW hHW s0
  have hl2 : L < w.heap.size + 2 := by omega
  have HLX := Lib.hid hLX; clear hLX
  have HBX := Lib.hid hBX; clear hBX
  refine wp_cut (fun a' w' => ∃ (vb : Nat) (v13 v14 v15 v16 v17 v18 v19 v20 : Value), a' = { tmps := #[.pointer (some ⟨L, 0, none⟩), .agg #[.int .i64 im, .int .i64 rd, .bool rev], undef, .pointer (some ⟨w.heap.size, 0, none⟩), .pointer (some ⟨w.heap.size + 1, 0, none⟩), .pointer (some ⟨vb, 0, none⟩), .pointer (some ⟨L, 0, none⟩), .pointer (some ⟨L, 0, none⟩), .pointer (some ⟨L, 8, none⟩), .map (some mb), .pointer (some ⟨w.heap.size, 0, none⟩), .int .i64 im, .agg #[.int .i64 gu, .int .i64 gr], v13, v14, v15, v16, v17, v18, v19, v20, undef, undef, undef, undef, undef, undef, undef, undef, undef, undef, undef, undef, undef, undef, undef, undef, undef, undef, undef, undef, undef, undef, undef, undef, undef, undef, undef, undef, undef, undef, undef, undef, undef, undef, undef, undef, undef, undef, undef, undef, undef, undef, undef, undef, undef], defers := [] } ∧
    Below X.heap.size X w' ∧ w'.cell? ⟨vb, 0, none⟩ = some (.int .i64 lo) ∧ w'.cell? ⟨vb, 1, none⟩ = some (.int .i64 hi) ∧ X.heap.size ≤ vb) ?_ ?_
  · have hS : Hid (w.heap.size + 2 ≤ X.heap.size ∧ ∀ b' o', b' < w.heap.size + 2 → X.cell? ⟨b', o', none⟩ = X.cell? ⟨b', o', none⟩) := ⟨(by (first | omega | (simp; done) | (simp; omega))), fun _ _ _ => rfl⟩
    refine wp_region_fork [(0, true), (1, true), (2, true), (3, true), (4, true), (5, true), (6, true)] [(7, false), (8, false), (9, false)] [(8, false), (7, false), (9, false)]
      (fun w' => w.heap.size + 2 ≤ w'.heap.size ∧ ∀ b' o', b' < w.heap.size + 2 → w'.cell? ⟨b', o', none⟩ = X.cell? ⟨b', o', none⟩) (by kernel_rfl) (by kernel_rfl) (fun _ _ d _ _ h => by cases d <;> exact h) (keepS (by (repeat (first | assumption | exact Below.refl _ _ | refine BA ?_ _ | refine BC ?_ _ _ (by omega) _ | refine Below.drew ?_ | refine BT ?_ (by assumption)))) hS.out) ?_
    repeat (first | (refine seq_read rfl (by rfl) _ (fun w' hS => by (try dsimp only at hS); go_simp; (try with_reducible rfl)) ?_; (try simp only [Act.put, List.setIfInBounds_toArray, List.set_cons_zero, List.set_cons_succ])) | (refine seq_skip rfl (by rfl) ?_; (try simp only [Act.put, List.setIfInBounds_toArray, List.set_cons_zero, List.set_cons_succ])))
    apply seq_end
    intro hSd
    constructor
    · (refine seq_do rfl (by rfl) (fun K hK => ?_); go_simp)
      refine (HT.out _ (BT HBX.out (by (repeat (first | assumption | exact Below.refl _ _ | refine BA ?_ _ | refine BC ?_ _ _ (by omega) _ | refine Below.drew ?_ | refine BT ?_ (by assumption)))))).mono ?_
      rintro e w1 ⟨rfl, hb1⟩
      have hXw : Below X.heap.size X w1 := by (repeat (first | assumption | exact Below.refl _ _ | refine BA ?_ _ | refine BC ?_ _ _ (by omega) _ | refine Below.drew ?_ | refine BT ?_ (by assumption)))
      refine hK _ _ (keepS hXw hS.out) ?_
      clear hK K hSd hb1
      (refine seq_do rfl (by rfl) (fun K hK => ?_); go_simp)
      refine hK _ _ (keepS (by (repeat (first | assumption | exact Below.refl _ _ | refine BA ?_ _ | refine BC ?_ _ _ (by omega) _ | refine Below.drew ?_ | refine BT ?_ (by assumption)))) hS.out) ?_
      clear hK K
      (refine seq_do rfl (by rfl) (fun K hK => ?_); go_simp)
      refine hK _ _ (keepS (by (repeat (first | assumption | exact Below.refl _ _ | refine BA ?_ _ | refine BC ?_ _ _ (by omega) _ | refine Below.drew ?_ | refine BT ?_ (by assumption)))) hS.out) ?_
      clear hK K
      apply seq_end
      exact ⟨w1.heap.size, _, _, _, _, _, _, _, _, rfl, by (repeat (first | assumption | exact Below.refl _ _ | refine BA ?_ _ | refine BC ?_ _ _ (by omega) _ | refine Below.drew ?_ | refine BT ?_ (by assumption))), by simp, by simp, hXw.size⟩
    · (refine seq_do rfl (by rfl) (fun K hK => ?_); go_simp)
      have hXa : Below X.heap.size X (X.alloc (Obj.cells #[Value.int IntKind.i64 0, Value.int IntKind.i64 0] 72)).drew := by (repeat (first | assumption | exact Below.refl _ _ | refine BA ?_ _ | refine BC ?_ _ _ (by omega) _ | refine Below.drew ?_ | refine BT ?_ (by assumption)))
      refine hK _ _ (keepS hXa hS.out) ?_
      clear hK K hSd
      (refine seq_do rfl (by rfl) (fun K hK => ?_); go_simp)
      refine (HT.out _ (BT HBX.out (by (repeat (first | assumption | exact Below.refl _ _ | refine BA ?_ _ | refine BC ?_ _ _ (by omega) _ | refine Below.drew ?_ | refine BT ?_ (by assumption)))))).mono ?_
      rintro e w1 ⟨rfl, hb1⟩
      have hXw : Below X.heap.size X w1 := by (repeat (first | assumption | exact Below.refl _ _ | refine BA ?_ _ | refine BC ?_ _ _ (by omega) _ | refine Below.drew ?_ | refine BT ?_ (by assumption)))
      have q0 : w1.cell? ⟨X.heap.size, 0, none⟩ = some (.int .i64 0) := by rw [hb1.cell (p := ⟨X.heap.size, 0, none⟩) (by simp)]; simp
      have q1 : w1.cell? ⟨X.heap.size, 1, none⟩ = some (.int .i64 0) := by rw [hb1.cell (p := ⟨X.heap.size, 1, none⟩) (by simp)]; simp
      have q2 : w1.frozen? ⟨X.heap.size, 0, none⟩ = false := by rw [hb1.frozen (p := ⟨X.heap.size, 0, none⟩) (by simp)]; simp
      have q3 : w1.frozen? ⟨X.heap.size, 1, none⟩ = false := by rw [hb1.frozen (p := ⟨X.heap.size, 1, none⟩) (by simp)]; simp
      rw [t0] at q0 q1 q2 q3
      refine hK _ _ (keepS hXw hS.out) ?_
      clear hK K hb1 hXa
      (refine seq_do rfl (by rfl) (fun K hK => ?_); go_simp)
      refine hK _ _ (keepS (by (repeat (first | assumption | exact Below.refl _ _ | refine BA ?_ _ | refine BC ?_ _ _ (by omega) _ | refine Below.drew ?_ | refine BT ?_ (by assumption)))) hS.out) ?_
      clear hK K
      apply seq_end
      exact ⟨w.heap.size + 2, _, _, _, _, _, _, _, _, rfl, by (repeat (first | assumption | exact Below.refl _ _ | refine BA ?_ _ | refine BC ?_ _ _ (by omega) _ | refine Below.drew ?_ | refine BT ?_ (by assumption))), by simp [go_sem, q0], by simp [go_sem, q1], by omega⟩
  · rintro a' w' ⟨vb, v13, v14, v15, v16, v17, v18, v19, v20, rfl, hXw, b0, b1, hvb⟩
    have HLw := Lib.hid (HLX.out.grown hXw)
    have HBw := Lib.hid (BT HBX.out hXw)
    have hL7 := HLw.out.cell.2.2.2.2.2.2.2.1
    have hLf := HLw.out.cell.2.2.2.2.2.2.2.2.2
    have y0' := (hXw.cell (p := ⟨w.heap.size, 0, none⟩) (by rw [t0]; show w.heap.size < _; omega)).trans y0
    have y2' := (hXw.cell (p := ⟨w.heap.size, 2, none⟩) (by rw [t0]; show w.heap.size < _; omega)).trans y2
    have z0' := (hXw.cell (p := ⟨w.heap.size + 1, 0, none⟩) (by rw [t0]; show w.heap.size + 1 < _; omega)).trans z0
    have z1' := (hXw.cell (p := ⟨w.heap.size + 1, 1, none⟩) (by rw [t0]; show w.heap.size + 1 < _; omega)).trans z1
    have zf0' := (hXw.frozen (p := ⟨w.heap.size + 1, 0, none⟩) (by rw [t0]; show w.heap.size + 1 < _; omega)).trans zf0
    have zf1' := (hXw.frozen (p := ⟨w.heap.size + 1, 1, none⟩) (by rw [t0]; show w.heap.size + 1 < _; omega)).trans zf1
    have hsz : w.heap.size + 2 ≤ w'.heap.size := by have := hXw.size; omega
    have HXw := Lib.hid hXw
    clear x0 x1 x2 y0 y1 y2 z0 z1 zf0 zf1 hXw
    have hht : Hid (ts.length < 1000) := HTL.out
    have hrow : ∀ g, tv.ownBlock = some g → g < w.heap.size := fun g hg => (HL.out.apart.2 g hg).2.2.2
    have hmb : mb < w.heap.size := HL.out.map.lt
    have hvb2 : vb < w'.heap.size := World.block_lt_of_cell? w' _ b0
    cases rev
    · go_wp2_with fail
      have hXY : BX (w.heap.size + 1) w' (w'.setCell ⟨w.heap.size + 1, 0, none⟩ (.int .i64 (wrap64 (gu + 1)))) := BX.set _ _ _ _
      have u0 : (w'.setCell ⟨w.heap.size + 1, 0, none⟩ (.int .i64 (wrap64 (gu + 1)))).cell? ⟨w.heap.size + 1, 0, none⟩ = some (.int .i64 (wrap64 (gu + 1))) := by simp [go_sem, z0']
      have u1 : (w'.setCell ⟨w.heap.size + 1, 0, none⟩ (.int .i64 (wrap64 (gu + 1)))).cell? ⟨w.heap.size + 1, 1, none⟩ = some (.int .i64 (gr)) := by simp [go_sem, z1']
      obtain ⟨Y, hY⟩ : ∃ Y, w'.setCell ⟨w.heap.size + 1, 0, none⟩ (.int .i64 (wrap64 (gu + 1))) = Y := ⟨_, rfl⟩
      rw [hY] at hXY u0 u1 ⊢
      clear hY
      have r1 : Y.cell? ⟨L, 7, none⟩ = some tv := (hXY.cell _ _ (by omega) (by omega)).trans hL7
      have r2 : Y.cell? ⟨w.heap.size, 0, none⟩ = some (.int .i64 im) := (hXY.cell _ _ (by omega) (by omega)).trans y0'
      have r3 : Y.cell? ⟨vb, 0, none⟩ = some (.int .i64 lo) := (hXY.cell _ _ hvb2 (by omega)).trans b0
      have r4 : Y.cell? ⟨vb, 1, none⟩ = some (.int .i64 hi) := (hXY.cell _ _ hvb2 (by omega)).trans b1
      have HLY := Lib.hid (HLw.out.bx hXY (by omega) (by omega) (fun g hg => by have := hrow g hg; omega))
      have HBY := Lib.hid (BX.below (N := w.heap.size) HBw.out hXY (by omega) (by omega))
      have hYs : w.heap.size + 2 ≤ Y.heap.size := by have := hXY.size; omega
      clear hXY z0' z1' zf0' zf1' b0 b1 y0' y2' hL7 hLf
      refine wp_cut (fun a' w'' => ∃ (v' : Value), a'.tmps.size = 66 ∧ a'.defers = [] ∧ a'.tmps.getD 0 undef = .pointer (some ⟨L, 0, none⟩) ∧ a'.tmps.getD 3 undef = .pointer (some ⟨w.heap.size, 0, none⟩) ∧ a'.tmps.getD 4 undef = .pointer (some ⟨w.heap.size + 1, 0, none⟩) ∧
        IsLook w0 w'' L mb ⟨some ⟨b, o, none⟩, hnn, hcap, heLo, heHi, him, hsLo, hsHi, hsa, hns, hscap⟩ v' (ts ++ [(false, im, lo, hi)]) cs ∧ Below w0.heap.size w0 w'' ∧
        w''.cell? ⟨w.heap.size, 0, none⟩ = some (.int .i64 im) ∧ w''.cell? ⟨w.heap.size + 1, 0, none⟩ = some (.int .i64 (wrap64 (gu + 1))) ∧ w''.cell? ⟨w.heap.size + 1, 1, none⟩ = some (.int .i64 (gr))) ?_ ?_
      · refine wp_region_seq [(0, true), (1, true), (2, true), (3, true), (4, true), (5, true), (6, true), (7, true), (8, true), (9, true), (10, false), (11, false), (12, true), (13, true), (14, false)]
          (fun w' => w'.cell? ⟨L, 7, none⟩ = some tv ∧ w'.cell? ⟨w.heap.size, 0, none⟩ = some (.int .i64 im) ∧ w'.cell? ⟨vb, 0, none⟩ = some (.int .i64 lo) ∧ w'.cell? ⟨vb, 1, none⟩ = some (.int .i64 hi)) (by kernel_rfl) (by kernel_rfl) (fun _ _ d _ _ h => by cases d <;> exact h) ⟨r1, r2, r3, r4⟩ ?_
        repeat (first | (refine seq_read rfl (by rfl) _ (fun w' hS => by (try dsimp only at hS); go_simp; (try with_reducible rfl)) ?_; (try simp only [Act.put, List.setIfInBounds_toArray, List.set_cons_zero, List.set_cons_succ])) | (refine seq_skip rfl (by rfl) ?_; (try simp only [Act.put, List.setIfInBounds_toArray, List.set_cons_zero, List.set_cons_succ])))
        (refine seq_do rfl (by rfl) (fun K hK => ?_); go_simp)
        have hBd : Below Y.heap.size Y (Y.alloc (Obj.cells #[Value.iface 123 (Value.agg #[Value.int IntKind.i64 im, Value.int IntKind.i64 lo, Value.int IntKind.i64 hi])] 99)).drew := by (repeat (first | assumption | exact Below.refl _ _ | refine BA ?_ _ | refine BC ?_ _ _ (by omega) _ | refine Below.drew ?_ | refine BT ?_ (by assumption)))
        have s1 := (hBd.cell (p := ⟨L, 7, none⟩) (World.block_lt_of_cell? Y _ r1)).trans r1
        have s2 := (hBd.cell (p := ⟨w.heap.size, 0, none⟩) (World.block_lt_of_cell? Y _ r2)).trans r2
        have s3 := (hBd.cell (p := ⟨vb, 0, none⟩) (World.block_lt_of_cell? Y _ r3)).trans r3
        have s4 := (hBd.cell (p := ⟨vb, 1, none⟩) (World.block_lt_of_cell? Y _ r4)).trans r4
        have p0 := (hBd.cell (p := ⟨w.heap.size + 1, 0, none⟩) (World.block_lt_of_cell? Y _ u0)).trans u0
        have p1 := (hBd.cell (p := ⟨w.heap.size + 1, 1, none⟩) (World.block_lt_of_cell? Y _ u1)).trans u1
        have hLd := HLY.out.grown hBd
        have hnew : ∀ j u, [tellV (false, im, lo, hi)][j]? = some u → (Y.alloc (Obj.cells #[Value.iface 123 (Value.agg #[Value.int IntKind.i64 im, Value.int IntKind.i64 lo, Value.int IntKind.i64 hi])] 99)).drew.cell? ((⟨Y.heap.size, 0, none⟩ : Addr).add j) = some u := by
          intro j u hu
          cases j with
          | zero => simp at hu; subst hu; simp [Addr.add, tellV]
          | succ j => simp at hu
        have hBW2 : Below w0.heap.size w0 (Y.alloc (Obj.cells #[Value.iface 123 (Value.agg #[Value.int IntKind.i64 im, Value.int IntKind.i64 lo, Value.int IntKind.i64 hi])] 99)).drew := BT (BT HB.out HBY.out) hBd
        have hsz3 : w0.heap.size ≤ (Y.alloc (Obj.cells #[Value.iface 123 (Value.agg #[Value.int IntKind.i64 im, Value.int IntKind.i64 lo, Value.int IntKind.i64 hi])] 99)).drew.heap.size := hBW2.size
        refine hK _ _ ⟨s1, s2, s3, s4⟩ ?_
        clear hK K
        (try simp only [Act.put, List.setIfInBounds_toArray, List.set_cons_zero, List.set_cons_succ])
        obtain ⟨i0, hi9, hz0, hz1, hz2⟩ := info_parts info99
        refine seq_do rfl (by rfl) (fun K hK => ?_)
        refine wp_append_own _ _ _ 92 rfl w0.heap.size 99 i0 .nilIface 1 16 Try.underlying92 hi9 hz0 hz1 hz2 rfl (by decide) tv ts.length (ts.map tellV) rfl hLd.row ⟨Y.heap.size, 0, none⟩ 1 1 [tellV (false, im, lo, hi)] rfl rfl hnew (by simp [tellV, Value.oneCell']) (by have := hht.out; unfold maxLen; omega) (by have := hht.out; omega) hsz3 ?_
        intro v' w3 hown hg _
        obtain ⟨g', cap', rfl⟩ := row_succ hown
        have hne1 : some L ≠ tv.ownBlock := fun e => (hLd.apart.2 L e.symm).1 rfl
        have hne2 : ∀ B, w.heap.size ≤ B → some B ≠ tv.ownBlock := fun B hB e => by have := hrow B e.symm; omega
        refine hK _ _ ⟨hg.cell s1 hne1, hg.cell s2 (hne2 _ (by show w.heap.size ≤ w.heap.size; omega)), hg.cell s3 (hne2 _ (by show w.heap.size ≤ vb; omega)), hg.cell s4 (hne2 _ (by show w.heap.size ≤ vb; omega))⟩ ?_
        clear hK K
        (try simp only [Act.put, List.setIfInBounds_toArray, List.set_cons_zero, List.set_cons_succ])
        have hl := look_put (t := (false, im, lo, hi)) hLd hg hown
        have hb3 : Below w0.heap.size w0 w3 := hBW2.grown hg hsz3 (fun k hk => (hLd.apart.2 k hk).2.2.1)
        have hb4 : Below w0.heap.size w0 (w3.setCell ⟨L, 7, none⟩ (.slice (some ⟨g', 0, none⟩) (ts.length + 1) cap')) := BC hb3 L 7 hLd.nl _
        have m1 := hg.cell s1 hne1
        have m2 := hg.cell s2 (hne2 _ (by show w.heap.size ≤ w.heap.size; omega))
        have m3 := hg.cell p0 (hne2 _ (by show w.heap.size ≤ w.heap.size + 1; omega))
        have m4 := hg.cell p1 (hne2 _ (by show w.heap.size ≤ w.heap.size + 1; omega))
        have mf : w3.frozen? ⟨L, 7, none⟩ = false := (World.frozen?_of_block (a := ⟨L, 7, none⟩) (hg.block L hLd.lt hne1)).trans hLd.cell.2.2.2.2.2.2.2.2.2
        have n2 : (w3.setCell ⟨L, 7, none⟩ (.slice (some ⟨g', 0, none⟩) (ts.length + 1) cap')).cell? ⟨w.heap.size, 0, none⟩ = some (.int .i64 im) := by rw [World.cell?_setCell_other _ _ _ _ (by intro he; injection he; omega)]; exact m2
        have n3 : (w3.setCell ⟨L, 7, none⟩ (.slice (some ⟨g', 0, none⟩) (ts.length + 1) cap')).cell? ⟨w.heap.size + 1, 0, none⟩ = some (.int .i64 (wrap64 (gu + 1))) := by rw [World.cell?_setCell_other _ _ _ _ (by intro he; injection he; omega)]; exact m3
        have n4 : (w3.setCell ⟨L, 7, none⟩ (.slice (some ⟨g', 0, none⟩) (ts.length + 1) cap')).cell? ⟨w.heap.size + 1, 1, none⟩ = some (.int .i64 (gr)) := by rw [World.cell?_setCell_other _ _ _ _ (by intro he; injection he; omega)]; exact m4
        have HK := Lib.hid (And.intro hl (And.intro hb4 (And.intro n2 (And.intro n3 n4))))
        clear hl hb3 hb4 n2 n3 n4 m2 m3 m4 hown hg s1 s2 s3 s4 p0 p1 hLd hnew hBW2 hBd u0 u1 r1 r2 r3 r4
        repeat (first | (refine seq_read rfl (by rfl) _ (fun w' hS => by (try dsimp only at hS); go_simp; (try with_reducible rfl)) ?_; (try simp only [Act.put, List.setIfInBounds_toArray, List.set_cons_zero, List.set_cons_succ])) | (refine seq_skip rfl (by rfl) ?_; (try simp only [Act.put, List.setIfInBounds_toArray, List.set_cons_zero, List.set_cons_succ])))
        refine seq_last rfl (by rfl) (by kernel_rfl) (fun K hK => ?_)
        go_simp
        refine hK _ _ ?_
        exact ⟨_, rfl, rfl, rfl, rfl, rfl, HK.out.1, HK.out.2.1, HK.out.2.2.1, HK.out.2.2.2.1, HK.out.2.2.2.2⟩
      · rintro ⟨tm, df⟩ w'' ⟨v', hs, hd, g0, g3, g4, hl, hb, n2, n3, n4⟩
        dsimp only at hs hd g0 g3 g4
        subst hd
        have hx : tm = #[tm.getD 0 undef, tm.getD 1 undef, tm.getD 2 undef, tm.getD 3 undef, tm.getD 4 undef, tm.getD 5 undef, tm.getD 6 undef, tm.getD 7 undef, tm.getD 8 undef, tm.getD 9 undef, tm.getD 10 undef, tm.getD 11 undef, tm.getD 12 undef, tm.getD 13 undef, tm.getD 14 undef, tm.getD 15 undef, tm.getD 16 undef, tm.getD 17 undef, tm.getD 18 undef, tm.getD 19 undef, tm.getD 20 undef, tm.getD 21 undef, tm.getD 22 undef, tm.getD 23 undef, tm.getD 24 undef, tm.getD 25 undef, tm.getD 26 undef, tm.getD 27 undef, tm.getD 28 undef, tm.getD 29 undef, tm.getD 30 undef, tm.getD 31 undef, tm.getD 32 undef, tm.getD 33 undef, tm.getD 34 undef, tm.getD 35 undef, tm.getD 36 undef, tm.getD 37 undef, tm.getD 38 undef, tm.getD 39 undef, tm.getD 40 undef, tm.getD 41 undef, tm.getD 42 undef, tm.getD 43 undef, tm.getD 44 undef, tm.getD 45 undef, tm.getD 46 undef, tm.getD 47 undef, tm.getD 48 undef, tm.getD 49 undef, tm.getD 50 undef, tm.getD 51 undef, tm.getD 52 undef, tm.getD 53 undef, tm.getD 54 undef, tm.getD 55 undef, tm.getD 56 undef, tm.getD 57 undef, tm.getD 58 undef, tm.getD 59 undef, tm.getD 60 undef, tm.getD 61 undef, tm.getD 62 undef, tm.getD 63 undef, tm.getD 64 undef, tm.getD 65 undef] := tmps_eta tm 66 hs
        rw [g0, g3, g4] at hx
        rw [hx]
        clear hx g0 g3 g4 hs
        clear u0 u1 r1 r2 r3 r4
        have n8 := hl.cell.2.2.2.2.2.2.2.2.1
        have hap := hl.apart
        obtain ⟨w5, hrun, hm5, hx5⟩ := run_update93 (w := w''.drew) (hl.map.kept rfl) im (wrap64 (gu + 1)) (gr)
        have HF : Hid (Below w0.heap.size w0 w5 ∧ ∃ tv', IsLook w0 w5 L mb ⟨some ⟨b, o, none⟩, hnn, hcap, heLo, heHi, him, hsLo, hsHi, hsa, hns, hscap⟩ tv' (ts ++ [(false, im, lo, hi)]) (setC im (bump false (getC im cs)) cs)) := by
          refine ⟨BX.below (hb.drew) hx5 hl.nm hb.size, v', hl.nl, hl.nm, (hx5.block L hl.lt hap.1).trans hl.cells, hl.row.kept (row := some mb) ⟨hx5.os, hx5.tape, hx5.output, hx5.size, fun i hi hn => hx5.block i hi (fun e => hn (by rw [e]))⟩ ?_, ?_⟩
          · cases hv : v'.ownBlock with
            | none => exact .inl rfl
            | some g => exact .inr (fun e => (hap.2 g hv).2.1 (by simpa using e))
          · have e : bump false (getC im cs) = (wrap64 (gu + 1), gr) := by rw [← HGU.out, ← HGR.out]; rfl
            rw [e]; exact hm5
        clear hm5 hx5 hap hb
        have hl9 := Lib.hid hl; clear hl
        go_wp2_with fail
        refine wp_region_seq [(0, true), (1, true), (2, true), (3, true), (4, true), (5, true), (6, true), (7, false)]
          (fun w' => w'.cell? ⟨L, 8, none⟩ = some (.map (some mb)) ∧ w'.cell? ⟨w.heap.size, 0, none⟩ = some (.int .i64 im) ∧ w'.cell? ⟨w.heap.size + 1, 0, none⟩ = some (.int .i64 (wrap64 (gu + 1))) ∧ w'.cell? ⟨w.heap.size + 1, 1, none⟩ = some (.int .i64 (gr))) (by kernel_rfl) (by kernel_rfl) (fun _ _ d _ _ h => by cases d <;> exact h) ⟨n8, n2, n3, n4⟩ ?_
        repeat (first | (refine seq_read rfl (by rfl) _ (fun w' hS => by (try dsimp only at hS); go_simp; (try with_reducible rfl)) ?_; (try simp only [Act.put, List.setIfInBounds_toArray, List.set_cons_zero, List.set_cons_succ])) | (refine seq_skip rfl (by rfl) ?_; (try simp only [Act.put, List.setIfInBounds_toArray, List.set_cons_zero, List.set_cons_succ])))
        refine seq_last rfl (by rfl) (by kernel_rfl) (fun K hK => ?_)
        go_simp
        refine hK _ _ ?_
        go_end0
        exact ⟨rfl, HF.out⟩
    · go_wp2_with fail
      have hXY : BX (w.heap.size + 1) w' (w'.setCell ⟨w.heap.size + 1, 1, none⟩ (.int .i64 (wrap64 (gr + 1)))) := BX.set _ _ _ _
      have u0 : (w'.setCell ⟨w.heap.size + 1, 1, none⟩ (.int .i64 (wrap64 (gr + 1)))).cell? ⟨w.heap.size + 1, 0, none⟩ = some (.int .i64 (gu)) := by simp [go_sem, z0']
      have u1 : (w'.setCell ⟨w.heap.size + 1, 1, none⟩ (.int .i64 (wrap64 (gr + 1)))).cell? ⟨w.heap.size + 1, 1, none⟩ = some (.int .i64 (wrap64 (gr + 1))) := by simp [go_sem, z1']
      obtain ⟨Y, hY⟩ : ∃ Y, w'.setCell ⟨w.heap.size + 1, 1, none⟩ (.int .i64 (wrap64 (gr + 1))) = Y := ⟨_, rfl⟩
      rw [hY] at hXY u0 u1 ⊢
      clear hY
      have r1 : Y.cell? ⟨L, 7, none⟩ = some tv := (hXY.cell _ _ (by omega) (by omega)).trans hL7
      have r2 : Y.cell? ⟨w.heap.size, 0, none⟩ = some (.int .i64 im) := (hXY.cell _ _ (by omega) (by omega)).trans y0'
      have r3 : Y.cell? ⟨vb, 0, none⟩ = some (.int .i64 lo) := (hXY.cell _ _ hvb2 (by omega)).trans b0
      have r4 : Y.cell? ⟨vb, 1, none⟩ = some (.int .i64 hi) := (hXY.cell _ _ hvb2 (by omega)).trans b1
      have HLY := Lib.hid (HLw.out.bx hXY (by omega) (by omega) (fun g hg => by have := hrow g hg; omega))
      have HBY := Lib.hid (BX.below (N := w.heap.size) HBw.out hXY (by omega) (by omega))
      have hYs : w.heap.size + 2 ≤ Y.heap.size := by have := hXY.size; omega
      clear hXY z0' z1' zf0' zf1' b0 b1 y0' y2' hL7 hLf
      refine wp_cut (fun a' w'' => ∃ (v' : Value), a'.tmps.size = 66 ∧ a'.defers = [] ∧ a'.tmps.getD 0 undef = .pointer (some ⟨L, 0, none⟩) ∧ a'.tmps.getD 3 undef = .pointer (some ⟨w.heap.size, 0, none⟩) ∧ a'.tmps.getD 4 undef = .pointer (some ⟨w.heap.size + 1, 0, none⟩) ∧
        IsLook w0 w'' L mb ⟨some ⟨b, o, none⟩, hnn, hcap, heLo, heHi, him, hsLo, hsHi, hsa, hns, hscap⟩ v' (ts ++ [(true, im, lo, hi)]) cs ∧ Below w0.heap.size w0 w'' ∧
        w''.cell? ⟨w.heap.size, 0, none⟩ = some (.int .i64 im) ∧ w''.cell? ⟨w.heap.size + 1, 0, none⟩ = some (.int .i64 (gu)) ∧ w''.cell? ⟨w.heap.size + 1, 1, none⟩ = some (.int .i64 (wrap64 (gr + 1)))) ?_ ?_
      · refine wp_region_seq [(0, true), (1, true), (2, true), (3, true), (4, true), (5, true), (6, true), (7, true), (8, true), (9, true), (10, false), (11, false), (12, true), (13, true), (14, false)]
          (fun w' => w'.cell? ⟨L, 7, none⟩ = some tv ∧ w'.cell? ⟨w.heap.size, 0, none⟩ = some (.int .i64 im) ∧ w'.cell? ⟨vb, 0, none⟩ = some (.int .i64 lo) ∧ w'.cell? ⟨vb, 1, none⟩ = some (.int .i64 hi)) (by kernel_rfl) (by kernel_rfl) (fun _ _ d _ _ h => by cases d <;> exact h) ⟨r1, r2, r3, r4⟩ ?_
        repeat (first | (refine seq_read rfl (by rfl) _ (fun w' hS => by (try dsimp only at hS); go_simp; (try with_reducible rfl)) ?_; (try simp only [Act.put, List.setIfInBounds_toArray, List.set_cons_zero, List.set_cons_succ])) | (refine seq_skip rfl (by rfl) ?_; (try simp only [Act.put, List.setIfInBounds_toArray, List.set_cons_zero, List.set_cons_succ])))
        (refine seq_do rfl (by rfl) (fun K hK => ?_); go_simp)
        have hBd : Below Y.heap.size Y (Y.alloc (Obj.cells #[Value.iface 122 (Value.agg #[Value.int IntKind.i64 im, Value.int IntKind.i64 lo, Value.int IntKind.i64 hi])] 99)).drew := by (repeat (first | assumption | exact Below.refl _ _ | refine BA ?_ _ | refine BC ?_ _ _ (by omega) _ | refine Below.drew ?_ | refine BT ?_ (by assumption)))
        have s1 := (hBd.cell (p := ⟨L, 7, none⟩) (World.block_lt_of_cell? Y _ r1)).trans r1
        have s2 := (hBd.cell (p := ⟨w.heap.size, 0, none⟩) (World.block_lt_of_cell? Y _ r2)).trans r2
        have s3 := (hBd.cell (p := ⟨vb, 0, none⟩) (World.block_lt_of_cell? Y _ r3)).trans r3
        have s4 := (hBd.cell (p := ⟨vb, 1, none⟩) (World.block_lt_of_cell? Y _ r4)).trans r4
        have p0 := (hBd.cell (p := ⟨w.heap.size + 1, 0, none⟩) (World.block_lt_of_cell? Y _ u0)).trans u0
        have p1 := (hBd.cell (p := ⟨w.heap.size + 1, 1, none⟩) (World.block_lt_of_cell? Y _ u1)).trans u1
        have hLd := HLY.out.grown hBd
        have hnew : ∀ j u, [tellV (true, im, lo, hi)][j]? = some u → (Y.alloc (Obj.cells #[Value.iface 122 (Value.agg #[Value.int IntKind.i64 im, Value.int IntKind.i64 lo, Value.int IntKind.i64 hi])] 99)).drew.cell? ((⟨Y.heap.size, 0, none⟩ : Addr).add j) = some u := by
          intro j u hu
          cases j with
          | zero => simp at hu; subst hu; simp [Addr.add, tellV]
          | succ j => simp at hu
        have hBW2 : Below w0.heap.size w0 (Y.alloc (Obj.cells #[Value.iface 122 (Value.agg #[Value.int IntKind.i64 im, Value.int IntKind.i64 lo, Value.int IntKind.i64 hi])] 99)).drew := BT (BT HB.out HBY.out) hBd
        have hsz3 : w0.heap.size ≤ (Y.alloc (Obj.cells #[Value.iface 122 (Value.agg #[Value.int IntKind.i64 im, Value.int IntKind.i64 lo, Value.int IntKind.i64 hi])] 99)).drew.heap.size := hBW2.size
        refine hK _ _ ⟨s1, s2, s3, s4⟩ ?_
        clear hK K
        (try simp only [Act.put, List.setIfInBounds_toArray, List.set_cons_zero, List.set_cons_succ])
        obtain ⟨i0, hi9, hz0, hz1, hz2⟩ := info_parts info99
        refine seq_do rfl (by rfl) (fun K hK => ?_)
        refine wp_append_own _ _ _ 92 rfl w0.heap.size 99 i0 .nilIface 1 16 Try.underlying92 hi9 hz0 hz1 hz2 rfl (by decide) tv ts.length (ts.map tellV) rfl hLd.row ⟨Y.heap.size, 0, none⟩ 1 1 [tellV (true, im, lo, hi)] rfl rfl hnew (by simp [tellV, Value.oneCell']) (by have := hht.out; unfold maxLen; omega) (by have := hht.out; omega) hsz3 ?_
        intro v' w3 hown hg _
        obtain ⟨g', cap', rfl⟩ := row_succ hown
        have hne1 : some L ≠ tv.ownBlock := fun e => (hLd.apart.2 L e.symm).1 rfl
        have hne2 : ∀ B, w.heap.size ≤ B → some B ≠ tv.ownBlock := fun B hB e => by have := hrow B e.symm; omega
        refine hK _ _ ⟨hg.cell s1 hne1, hg.cell s2 (hne2 _ (by show w.heap.size ≤ w.heap.size; omega)), hg.cell s3 (hne2 _ (by show w.heap.size ≤ vb; omega)), hg.cell s4 (hne2 _ (by show w.heap.size ≤ vb; omega))⟩ ?_
        clear hK K
        (try simp only [Act.put, List.setIfInBounds_toArray, List.set_cons_zero, List.set_cons_succ])
        have hl := look_put (t := (true, im, lo, hi)) hLd hg hown
        have hb3 : Below w0.heap.size w0 w3 := hBW2.grown hg hsz3 (fun k hk => (hLd.apart.2 k hk).2.2.1)
        have hb4 : Below w0.heap.size w0 (w3.setCell ⟨L, 7, none⟩ (.slice (some ⟨g', 0, none⟩) (ts.length + 1) cap')) := BC hb3 L 7 hLd.nl _
        have m1 := hg.cell s1 hne1
        have m2 := hg.cell s2 (hne2 _ (by show w.heap.size ≤ w.heap.size; omega))
        have m3 := hg.cell p0 (hne2 _ (by show w.heap.size ≤ w.heap.size + 1; omega))
        have m4 := hg.cell p1 (hne2 _ (by show w.heap.size ≤ w.heap.size + 1; omega))
        have mf : w3.frozen? ⟨L, 7, none⟩ = false := (World.frozen?_of_block (a := ⟨L, 7, none⟩) (hg.block L hLd.lt hne1)).trans hLd.cell.2.2.2.2.2.2.2.2.2
        have n2 : (w3.setCell ⟨L, 7, none⟩ (.slice (some ⟨g', 0, none⟩) (ts.length + 1) cap')).cell? ⟨w.heap.size, 0, none⟩ = some (.int .i64 im) := by rw [World.cell?_setCell_other _ _ _ _ (by intro he; injection he; omega)]; exact m2
        have n3 : (w3.setCell ⟨L, 7, none⟩ (.slice (some ⟨g', 0, none⟩) (ts.length + 1) cap')).cell? ⟨w.heap.size + 1, 0, none⟩ = some (.int .i64 (gu)) := by rw [World.cell?_setCell_other _ _ _ _ (by intro he; injection he; omega)]; exact m3
        have n4 : (w3.setCell ⟨L, 7, none⟩ (.slice (some ⟨g', 0, none⟩) (ts.length + 1) cap')).cell? ⟨w.heap.size + 1, 1, none⟩ = some (.int .i64 (wrap64 (gr + 1))) := by rw [World.cell?_setCell_other _ _ _ _ (by intro he; injection he; omega)]; exact m4
        have HK := Lib.hid (And.intro hl (And.intro hb4 (And.intro n2 (And.intro n3 n4))))
        clear hl hb3 hb4 n2 n3 n4 m2 m3 m4 hown hg s1 s2 s3 s4 p0 p1 hLd hnew hBW2 hBd u0 u1 r1 r2 r3 r4
        repeat (first | (refine seq_read rfl (by rfl) _ (fun w' hS => by (try dsimp only at hS); go_simp; (try with_reducible rfl)) ?_; (try simp only [Act.put, List.setIfInBounds_toArray, List.set_cons_zero, List.set_cons_succ])) | (refine seq_skip rfl (by rfl) ?_; (try simp only [Act.put, List.setIfInBounds_toArray, List.set_cons_zero, List.set_cons_succ])))
        refine seq_last rfl (by rfl) (by kernel_rfl) (fun K hK => ?_)
        go_simp
        refine hK _ _ ?_
        exact ⟨_, rfl, rfl, rfl, rfl, rfl, HK.out.1, HK.out.2.1, HK.out.2.2.1, HK.out.2.2.2.1, HK.out.2.2.2.2⟩
      · rintro ⟨tm, df⟩ w'' ⟨v', hs, hd, g0, g3, g4, hl, hb, n2, n3, n4⟩
        dsimp only at hs hd g0 g3 g4
        subst hd
        have hx : tm = #[tm.getD 0 undef, tm.getD 1 undef, tm.getD 2 undef, tm.getD 3 undef, tm.getD 4 undef, tm.getD 5 undef, tm.getD 6 undef, tm.getD 7 undef, tm.getD 8 undef, tm.getD 9 undef, tm.getD 10 undef, tm.getD 11 undef, tm.getD 12 undef, tm.getD 13 undef, tm.getD 14 undef, tm.getD 15 undef, tm.getD 16 undef, tm.getD 17 undef, tm.getD 18 undef, tm.getD 19 undef, tm.getD 20 undef, tm.getD 21 undef, tm.getD 22 undef, tm.getD 23 undef, tm.getD 24 undef, tm.getD 25 undef, tm.getD 26 undef, tm.getD 27 undef, tm.getD 28 undef, tm.getD 29 undef, tm.getD 30 undef, tm.getD 31 undef, tm.getD 32 undef, tm.getD 33 undef, tm.getD 34 undef, tm.getD 35 undef, tm.getD 36 undef, tm.getD 37 undef, tm.getD 38 undef, tm.getD 39 undef, tm.getD 40 undef, tm.getD 41 undef, tm.getD 42 undef, tm.getD 43 undef, tm.getD 44 undef, tm.getD 45 undef, tm.getD 46 undef, tm.getD 47 undef, tm.getD 48 undef, tm.getD 49 undef, tm.getD 50 undef, tm.getD 51 undef, tm.getD 52 undef, tm.getD 53 undef, tm.getD 54 undef, tm.getD 55 undef, tm.getD 56 undef, tm.getD 57 undef, tm.getD 58 undef, tm.getD 59 undef, tm.getD 60 undef, tm.getD 61 undef, tm.getD 62 undef, tm.getD 63 undef, tm.getD 64 undef, tm.getD 65 undef] := tmps_eta tm 66 hs
        rw [g0, g3, g4] at hx
        rw [hx]
        clear hx g0 g3 g4 hs
        clear u0 u1 r1 r2 r3 r4
        have n8 := hl.cell.2.2.2.2.2.2.2.2.1
        have hap := hl.apart
        obtain ⟨w5, hrun, hm5, hx5⟩ := run_update93 (w := w''.drew) (hl.map.kept rfl) im (gu) (wrap64 (gr + 1))
        have HF : Hid (Below w0.heap.size w0 w5 ∧ ∃ tv', IsLook w0 w5 L mb ⟨some ⟨b, o, none⟩, hnn, hcap, heLo, heHi, him, hsLo, hsHi, hsa, hns, hscap⟩ tv' (ts ++ [(true, im, lo, hi)]) (setC im (bump true (getC im cs)) cs)) := by
          refine ⟨BX.below (hb.drew) hx5 hl.nm hb.size, v', hl.nl, hl.nm, (hx5.block L hl.lt hap.1).trans hl.cells, hl.row.kept (row := some mb) ⟨hx5.os, hx5.tape, hx5.output, hx5.size, fun i hi hn => hx5.block i hi (fun e => hn (by rw [e]))⟩ ?_, ?_⟩
          · cases hv : v'.ownBlock with
            | none => exact .inl rfl
            | some g => exact .inr (fun e => (hap.2 g hv).2.1 (by simpa using e))
          · have e : bump true (getC im cs) = (gu, wrap64 (gr + 1)) := by rw [← HGU.out, ← HGR.out]; rfl
            rw [e]; exact hm5
        clear hm5 hx5 hap hb
        have hl9 := Lib.hid hl; clear hl
        go_wp2_with fail
        refine wp_region_seq [(0, true), (1, true), (2, true), (3, true), (4, true), (5, true), (6, true), (7, false)]
          (fun w' => w'.cell? ⟨L, 8, none⟩ = some (.map (some mb)) ∧ w'.cell? ⟨w.heap.size, 0, none⟩ = some (.int .i64 im) ∧ w'.cell? ⟨w.heap.size + 1, 0, none⟩ = some (.int .i64 (gu)) ∧ w'.cell? ⟨w.heap.size + 1, 1, none⟩ = some (.int .i64 (wrap64 (gr + 1)))) (by kernel_rfl) (by kernel_rfl) (fun _ _ d _ _ h => by cases d <;> exact h) ⟨n8, n2, n3, n4⟩ ?_
        repeat (first | (refine seq_read rfl (by rfl) _ (fun w' hS => by (try dsimp only at hS); go_simp; (try with_reducible rfl)) ?_; (try simp only [Act.put, List.setIfInBounds_toArray, List.set_cons_zero, List.set_cons_succ])) | (refine seq_skip rfl (by rfl) ?_; (try simp only [Act.put, List.setIfInBounds_toArray, List.set_cons_zero, List.set_cons_succ])))
        refine seq_last rfl (by rfl) (by kernel_rfl) (fun K hK => ?_)
        go_simp
        refine hK _ _ ?_
        go_end0
        exact ⟨rfl, HF.out⟩
end Go.Proofs.Ytmfbkgdlfackcaa
