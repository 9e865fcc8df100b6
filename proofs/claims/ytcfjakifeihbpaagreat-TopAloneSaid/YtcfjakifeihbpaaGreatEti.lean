/- Eye: what the looks of a set tell, and what is known of habits. -/
import Derived.Test.YtcfjakifeihbpaaGreatEha
import Derived.OwnWalk
import Derived.Laws.MakeOwn
import Derived.Laws.OwnMore
namespace Go.Proofs.YtcfjakifeihbpaaGreat
namespace Ey
open Go.RowKit

def tieV (t : TieV) : List Value := [t.1.val, t.2.1.val, .int .i64 t.2.2.1, .int .i64 t.2.2.2]
theorem infoTi : (Tryz.prog.info? 129).map (fun i => (i.zero, i.size, i.bytes)) = some (some (.agg #[.nilIface, .nilIface, .int .i64 0, .int .i64 0]), 4, 48) := by kernel_rfl
theorem tieV_one (t : TieV) : ∀ u ∈ tieV t, u.oneCell' = true := by
  intro u hu
  have hv : ∀ x : One, x.val.oneCell' = true := fun x => by cases x <;> rfl
  simp only [tieV, List.mem_cons, List.not_mem_nil, or_false] at hu
  rcases hu with rfl | rfl | rfl | rfl
  · exact hv _
  · exact hv _
  · rfl
  · rfl
def habT (h : Wd) (H : Int) (e : Nat) : TieV := (.z, .h e, if setI H e then (h.hLo, h.hHi) else (0, 0))
def tvE (h : Wd) (H : Int) (E : Nat) : List TieV := (List.range E).map (habT h H)
def lookT (ls : List LkV) (ts : List (Int × Int)) (k : Nat) : TieV := (.h (ls.getD k (0, 0, 0)).1.toNat, .p (ls.getD k (0, 0, 0)).2.1.toNat, ts.getD k (0, 0))
def tvL (ls : List LkV) (ts : List (Int × Int)) (S : Int) (n : Nat) : List TieV := ((List.range n).filter (setI S)).map (lookT ls ts)
theorem tvE_succ (h : Wd) (H : Int) (E : Nat) : tvE h H (E + 1) = tvE h H E ++ [habT h H E] := by simp [tvE, List.range_succ]
theorem tvE_len (h : Wd) (H : Int) (E : Nat) : (tvE h H E).length = E := by simp [tvE]
theorem tvL_yes (ls : List LkV) (ts : List (Int × Int)) {S : Int} {n : Nat} (hs : setI S n = true) : tvL ls ts S (n + 1) = tvL ls ts S n ++ [lookT ls ts n] := by simp [tvL, List.range_succ, List.filter_append, hs]
theorem tvL_no (ls : List LkV) (ts : List (Int × Int)) {S : Int} {n : Nat} (hs : setI S n = false) : tvL ls ts S (n + 1) = tvL ls ts S n := by simp [tvL, List.range_succ, List.filter_append, hs]
theorem tvL_len (ls : List LkV) (ts : List (Int × Int)) (S : Int) (n : Nat) : (tvL ls ts S n).length ≤ n := by
  simp only [tvL, List.length_map]
  exact Nat.le_trans (List.length_filter_le _ _) (by simp)
/-- The call returns these ties. -/
def TiesOut (w : World) (l : List TieV) (e : Ending) (w' : World) : Prop :=
  ∃ g cap, e = .returned (.slice (some ⟨g, 0, none⟩) l.length cap) ∧ w'.ownsRow w.heap.size 129 4 (.slice (some ⟨g, 0, none⟩) l.length cap) l.length (l.flatMap tieV) ∧ Below w.heap.size w w'
theorem wp_make_own {P : Program} {o : Oper} {a : Act} {w : World} {K : Act → World → Prop} {Q : Exit → Act → World → Prop} (l c : Operand) (t : TypeId) (hop : o.op = Op.makeSlice t l c)
    (base : Nat) (e : TypeId) (i : TypeInfo) (z : Value) (size : Nat) (h1 : P.underlying t = some (.slice e)) (h2 : P.info? e = some i) (h3 : i.zero = some z) (h4 : i.size = size)
    (kl kc : IntKind) (C : Int) (n : Nat) (hl : a.eval l = .int kl 0) (hc : a.eval c = .int kc C) (hC : C = (n : Int)) (b2 : i.bytes * n ≤ 281474976710656) (b3 : n ≤ maxLen) (b4 : base ≤ w.heap.size)
    (hK : ∀ w', w'.ownsRow base e size (.slice (some ⟨w.heap.size, 0, none⟩) 0 n) 0 [] → w.grownBy w' none → K (a.put o.dst (.slice (some ⟨w.heap.size, 0, none⟩) 0 n)) w') : o.wp P a w K Q := by
  obtain ⟨w', hrun, r1, r2⟩ := run_make_own (P := P) w base t e i z size h1 h2 h3 h4 kl kc n b2 b3 b4
  subst hC
  unfold Oper.wp
  simp [execOp, hop, hl, hc, hrun, Result.andThen]
  exact hK w' r1 r2
theorem wp_append_fits {P : Program} {o : Oper} {a : Act} {w : World} {K : Act → World → Prop} {Q : Exit → Act → World → Prop} (s x : Operand) (t : TypeId) (hop : o.op = Op.call { callee := Callee.builtin Builtin.append, args := #[s, x], argTypes := #[t, t] })
    (base : Nat) (e : TypeId) (i : TypeInfo) (size : Nat) (h1 : P.underlying t = some (.slice e)) (h2 : P.info? e = some i) (h4 : i.size = size)
    (g k cap : Nat) (xs : List Value) (hs : a.eval s = .slice (some ⟨g, 0, none⟩) k cap) (hown : w.ownsRow base e size (.slice (some ⟨g, 0, none⟩) k cap) k xs) (ad : Addr) (m c : Nat) (news : List Value) (hx : a.eval x = .slice (some ad) m c) (hn : news.length = m * size)
    (hc : ∀ j u, news[j]? = some u → w.cell? (ad.add j) = some u) (h1c : ∀ u ∈ news, u.oneCell' = true) (b1 : k + m ≤ cap)
    (hK : ∀ w', w'.ownsRow base e size (.slice (some ⟨g, 0, none⟩) (k + m) cap) (k + m) (xs ++ news) → w.grownBy w' (some g) → K (a.put o.dst (.slice (some ⟨g, 0, none⟩) (k + m) cap)) w') : o.wp P a w K Q := by
  obtain ⟨w', hrun, r1, r2⟩ := run_append_fits (P := P) w base t o.type e i size h1 h2 h4 g k cap xs hown ad m c news hn hc h1c b1
  unfold Oper.wp
  simp [execOp, hop, resolve, invoke, builtin, hs, hx, hrun, Result.andThen]
  exact hK w' r1 r2
theorem new_tie (w : World) (v0 v1 : Value) (lo hi : Int) (t : TypeId) : ∀ j u, [v0, v1, .int .i64 lo, .int .i64 hi][j]? = some u → (w.alloc (.cells #[v0, v1, .int .i64 lo, .int .i64 hi] t)).cell? ((⟨w.heap.size, 0, none⟩ : Addr).add j) = some u := by
  intro j u hj
  have hj2 : j < 4 := by have := (List.getElem?_eq_some_iff.1 hj).1; simpa using this
  have : j = 0 ∨ j = 1 ∨ j = 2 ∨ j = 3 := by omega
  rcases this with rfl | rfl | rfl | rfl <;> (simp at hj; subst hj; simp [go_sem, Addr.add])
theorem flat_span (ts : List (Int × Int)) : ∀ k, k < ts.length → (ts.flatMap spanV)[k * 2]? = some (.int .i64 (ts.getD k (0, 0)).1) ∧ (ts.flatMap spanV)[k * 2 + 1]? = some (.int .i64 (ts.getD k (0, 0)).2) := by
  induction ts with
  | nil => intro k hk; simp at hk
  | cons s ts ih =>
    intro k hk
    cases k with
    | zero => simp [spanV]
    | succ k =>
      have h := ih k (by simpa using hk)
      have e : ∀ i, (List.flatMap spanV (s :: ts))[(k + 1) * 2 + i]? = (List.flatMap spanV ts)[k * 2 + i]? := fun i => by
        rw [List.flatMap_cons, List.getElem?_append_right (by simp [spanV]; omega)]
        congr 1; simp [spanV]; omega
      have e0 := e 0
      simp only [Nat.add_zero] at e0
      rw [e0, e 1]
      simpa using h
theorem IsW.trav {w0 w : World} {L : Nat} {h : Wd} {tv : Value} {ts : List (Int × Int)} (k : IsW w0 w L h tv ts) {j : Nat} (hj : j < ts.length) :
    ∃ g cap, tv = .slice (some ⟨g, 0, none⟩) ts.length cap ∧ g < w.heap.size ∧ w.cell? ⟨g, j * 2, none⟩ = some (.int .i64 (ts.getD j (0, 0)).1) ∧ w.cell? ⟨g, j * 2 + 1, none⟩ = some (.int .i64 (ts.getD j (0, 0)).2) := by
  rcases k.row.2 with ⟨_, h0⟩ | ⟨g, cap, cur, hv, _⟩
  · omega
  · have hr := k.row
    rw [hv] at hr
    obtain ⟨a, b⟩ := flat_span ts j hj
    exact ⟨g, cap, hv, (hr.lt g rfl).2, by rw [hr.cellAt _ (by omega), a], by rw [hr.cellAt _ (by omega), b]⟩
set_option maxRecDepth 100000 in
set_option maxHeartbeats 4000000 in
theorem ties_any (w0 : World) (L E : Nat) (h : Wd) (tv : Value) (ts : List (Int × Int)) (ls : List LkV) (S H : Int) (w : World) (hI : IsW w0 w L h tv ts) (hlk : LooksIn w h.la ls) (hnl : ls.length = h.ln) (hnt : ts.length = ls.length) (hl12 : ls.length ≤ 12)
    (hE : h.eyes = (E : Int)) (hE4 : E ≤ 4) (hls : ∀ k, k < ls.length → 0 ≤ (ls.getD k (0, 0, 0)).1 ∧ 0 ≤ (ls.getD k (0, 0, 0)).2.1) :
    Calls Tryz.prog 65 #[.pointer (some ⟨L, 0, none⟩), .func (.func 66) #[.int .i64 S] #[], .func (.func 66) #[.int .i64 H] #[]] w (TiesOut w (tvE h H E ++ tvL ls ts S ls.length)) := by
  have HI := Lib.hid hI
  have HLK := Lib.hid hlk
  have HLS := Lib.hid hls
  obtain ⟨c0, c1, c2, c3, c4, c5, c6, c7⟩ := hI.box
  rw [hE] at c4
  have HS : Hid (∀ k : Nat, k ≤ 12 → ∀ Y, Calls Tryz.prog 66 #[.int .i64 S, .int .i64 k] Y (Ret (.bool (setI S k)) Y)) := fun k hk Y => has_set S k Y hk
  have HH : Hid (∀ k : Nat, k ≤ 12 → ∀ Y, Calls Tryz.prog 66 #[.int .i64 H, .int .i64 k] Y (Ret (.bool (setI H k)) Y)) := fun k hk Y => has_set H k Y hk
  obtain ⟨it, hi9, hz0, hz1, hz2⟩ := info_parts infoTi
  have hln : h.ln ≤ 12 := by omega
  have hcap : Hid (IntKind.i64.wrap ((E : Int) + (h.ln : Int)) = ((E + h.ln : Nat) : Int)) := by show _ = _; first | exact IntWalk.i64_in _ (by omega) | (simp [IntKind.wrap, IntKind.bits, IntKind.signed]; omega)
  clear hI hlk hls
  go_enter Tryz.func65, Tryz.ntmps65
  go_wp2_with fail
  refine wp_region_seq [(0, true), (1, true), (2, true), (3, true), (4, true), (5, true), (6, true), (7, true), (8, true), (9, true), (10, true), (11, true), (12, false), (13, true)]
    (fun w' => w'.cell? ⟨L, 4, none⟩ = some (.int .i64 E) ∧ w'.cell? ⟨L, 7, none⟩ = some (.slice h.la h.ln h.lcap)) (by kernel_rfl) (by kernel_rfl) (fun _ _ d _ _ h => by cases d <;> exact h) ⟨c4, c7⟩ ?_
  repeat (first | (refine seq_read rfl (by rfl) _ (fun w' hS => by (try dsimp only at hS); go_simp; (try with_reducible rfl)) ?_; (try simp only [Act.put, List.setIfInBounds_toArray, List.set_cons_zero, List.set_cons_succ])) | (refine seq_skip rfl (by rfl) ?_; (try simp only [Act.put, List.setIfInBounds_toArray, List.set_cons_zero, List.set_cons_succ])))
  refine seq_do rfl (by rfl) (fun K hK => ?_)
  refine wp_make_own _ _ 99 rfl w.heap.size 129 it _ 4 Tryz.underlying99 hi9 hz0 hz1 .i64 .i64 _ (E + h.ln) rfl rfl hcap.out (by rw [hz2]; omega) (by unfold maxLen; omega) (Nat.le_refl _) ?_
  intro X hown hgr
  have hbX : Below w.heap.size w X := (Below.drew (Below.refl w.heap.size w)).grown hgr (Nat.le_refl _) (fun k e => by cases e)
  refine hK _ _ ⟨hgr.cell (show w.drew.cell? ⟨L, 4, none⟩ = _ from c4) (by simp), hgr.cell (show w.drew.cell? ⟨L, 7, none⟩ = _ from c7) (by simp)⟩ ?_
  clear hK K
  (try simp only [Act.put, List.setIfInBounds_toArray, List.set_cons_zero, List.set_cons_succ])
  repeat (first | (refine seq_read rfl (by rfl) _ (fun w' hS => by (try dsimp only at hS); go_simp; (try with_reducible rfl)) ?_; (try simp only [Act.put, List.setIfInBounds_toArray, List.set_cons_zero, List.set_cons_succ])) | (refine seq_skip rfl (by rfl) ?_; (try simp only [Act.put, List.setIfInBounds_toArray, List.set_cons_zero, List.set_cons_succ])))
  apply seq_end
  first | show Exit.inBlock _ _ Exit.normal _ _ | show Exit.then _ _ Exit.normal _ _
  have HB := Lib.hid hbX
  have HR := Lib.hid hown
  obtain ⟨g, hg⟩ : ∃ g, w.drew.heap.size = g := ⟨_, rfl⟩
  have hgw : w.heap.size = g := hg
  rw [hg] at hown HR ⊢
  have hLw : L < w.heap.size := HI.out.lt
  have c4 := cellB c4 hbX
  have c7 := cellB c7 hbX
  have HIX := Lib.hid (HI.out.grown hbX)
  have hlp : Hid (h.eyes = (E : Int)) := hE
  clear hown hgr hbX hcap c0 c1 c2 c3 c5 c6 hE
  generalize IntKind.i64.wrap ((E : Int) + (h.ln : Int)) = q23
  go_wp2_with fail
  go_loopw [7, 30] (fun v i wr => ∃ e : Nat, e ≤ E ∧ i = .int .i64 e ∧ v = .slice (some ⟨g, 0, none⟩) e (E + h.ln) ∧ wr.ownsRow w.heap.size 129 4 (.slice (some ⟨g, 0, none⟩) e (E + h.ln)) e ((tvE h H e).flatMap tieV) ∧ Below w.heap.size w wr) (fun _ i _ => E - (intOf i).toNat)
  case atStart => exact ⟨0, by omega, rfl, by rw [hgw], HR.out, HB.out⟩
  case round =>
    obtain ⟨e, he, rfl, rfl, hown, hB⟩ := hrel
    by_cases hlt : e < E
    · have hlt' : (e : Int) < (E : Int) := by omega
      have hHe := Lib.hid (HH.out e (by omega))
      have he0 : (0 : Int) ≤ (e : Int) := by omega
      have he4 : (e : Int) ≤ 4 := by omega
      have hst : Hid (tvE h H (e + 1) = tvE h H e ++ [habT h H e]) := tvE_succ h H e
      have hB0 := hB
      have hLr := (HI.out.grown hB0)
      obtain ⟨c0, c1, c2, c3, c4', c5, c6, c7'⟩ := hLr.box
      clear hLr c0 c1 c2 c3 c4' c7' hB0
      go_wp2_with fail
      refine (hHe.out _).mono ?_
      rintro e' w1 ⟨rfl, hb1⟩
      have hZ := newB wr (.cells #[.iface 79 (.agg #[]), .iface 94 (.int .i64 e), .int .i64 0, .int .i64 0] 129)
      have hZ1 := BT hZ hb1
      have t0 := cellB (show (wr.alloc (.cells #[.iface 79 (.agg #[]), .iface 94 (.int .i64 e), .int .i64 0, .int .i64 0] 129)).cell? ⟨wr.heap.size, 0, none⟩ = some (.iface 79 (.agg #[])) by simp [go_sem]) hb1
      have t1 := cellB (show (wr.alloc (.cells #[.iface 79 (.agg #[]), .iface 94 (.int .i64 e), .int .i64 0, .int .i64 0] 129)).cell? ⟨wr.heap.size, 1, none⟩ = some (.iface 94 (.int .i64 e)) by simp [go_sem]) hb1
      have t2 := cellB (show (wr.alloc (.cells #[.iface 79 (.agg #[]), .iface 94 (.int .i64 e), .int .i64 0, .int .i64 0] 129)).cell? ⟨wr.heap.size, 2, none⟩ = some (.int .i64 0) by simp [go_sem]) hb1
      have t3 := cellB (show (wr.alloc (.cells #[.iface 79 (.agg #[]), .iface 94 (.int .i64 e), .int .i64 0, .int .i64 0] 129)).cell? ⟨wr.heap.size, 3, none⟩ = some (.int .i64 0) by simp [go_sem]) hb1
      have f2 : w1.frozen? ⟨wr.heap.size, 2, none⟩ = false := by rw [hb1.frozen (p := ⟨wr.heap.size, 2, none⟩) (by simp)]; simp
      have f3 : w1.frozen? ⟨wr.heap.size, 3, none⟩ = false := by rw [hb1.frozen (p := ⟨wr.heap.size, 3, none⟩) (by simp)]; simp
      have c5 := cellB c5 hZ1
      have c6 := cellB c6 hZ1
      have hown1 := Lib.hid (hown.kept (row := none) ⟨hZ1.os, hZ1.tape, hZ1.output, hZ1.size, fun i hi _ => hZ1.block i hi⟩ (.inr (by simp [Value.ownBlock])))
      have hB1 := BT hB hZ1
      have hgl : g < wr.heap.size := (hown.lt g rfl).2
      have hwl : w.heap.size ≤ wr.heap.size := hB.size
      clear hown hZ hZ1 hb1 hB
      generalize wr.heap.size = B at *
      cases hq : setI H e
      · have hv : Hid (tieV (habT h H e) = [.iface 79 (.agg #[]), .iface 94 (.int .i64 e), .int .i64 0, .int .i64 0]) := by show _ = _; unfold habT tieV; rw [hq]; rfl
        go_upto_region 8 with fail
        have hR4 := hown1.out
        have hB4 := hB1
        clear hown1 hB1 f2 f3 c5 c6
        generalize w1 = X4 at *
        have t4 := new_tie X4 (.iface 79 (.agg #[])) (.iface 94 (.int .i64 e)) 0 0 129
        have hX5 := newB X4 (.cells #[.iface 79 (.agg #[]), .iface 94 (.int .i64 e), .int .i64 0, .int .i64 0] 129)
        have hB5 := BT hB4 hX5
        have hR5 := hR4.alloc (.cells #[.iface 79 (.agg #[]), .iface 94 (.int .i64 e), .int .i64 0, .int .i64 0] 129)
        have h1c := tieV_one (habT h H e)
        rw [hv.out] at h1c
        clear hB4 hX5 hR4
        go_wp2_with (at_builtin; refine wpList_append_fits _ rfl _ _ 99 rfl w.heap.size 129 it 4 Tryz.underlying99 hi9 hz1 g e (E + h.ln) _ rfl hR5 ⟨X4.heap.size, 0, none⟩ 1 1 _ rfl rfl t4 h1c (by omega) ?_; intro X6 hR6 hg6)
        have hB6 : Below w.heap.size w X6 := hB5.grown hg6 hB5.size (fun k e => by injection e with e; omega)
        go_roundw
        case rel => exact ⟨e + 1, by omega, by go_num, rfl, by rw [hst.out, List.flatMap_append]; simp only [List.flatMap_cons, List.flatMap_nil, List.append_nil]; rw [hv.out]; exact hR6, hB6⟩
        case measure => simp [intOf]; omega
      · have hv : Hid (tieV (habT h H e) = [.iface 79 (.agg #[]), .iface 94 (.int .i64 e), .int .i64 h.hLo, .int .i64 h.hHi]) := by show _ = _; unfold habT tieV; rw [hq]; rfl
        go_upto_region 8 with fail
        have hgb : g ≠ B := by omega
        have g2 := grownBy_set w1 B 2 (.int .i64 h.hLo)
        have g3 := grownBy_set (w1.setCell ⟨B, 2, none⟩ (.int .i64 h.hLo)) B 3 (.int .i64 h.hHi)
        have hR4 := (hown1.out.kept g2 (.inr (by simp [Value.ownBlock]; omega))).kept g3 (.inr (by simp [Value.ownBlock]; omega))
        have hB4 := BC (BC hB1 B 2 hwl (.int .i64 h.hLo)) B 3 hwl (.int .i64 h.hHi)
        have t0 := (World.cell?_setCell_other _ ⟨B, 3, none⟩ ⟨B, 0, none⟩ (.int .i64 h.hHi) (by intro e; injection e; omega)).trans ((World.cell?_setCell_other w1 ⟨B, 2, none⟩ ⟨B, 0, none⟩ (.int .i64 h.hLo) (by intro e; injection e; omega)).trans t0)
        have t1 := (World.cell?_setCell_other _ ⟨B, 3, none⟩ ⟨B, 1, none⟩ (.int .i64 h.hHi) (by intro e; injection e; omega)).trans ((World.cell?_setCell_other w1 ⟨B, 2, none⟩ ⟨B, 1, none⟩ (.int .i64 h.hLo) (by intro e; injection e; omega)).trans t1)
        have t3' := (World.cell?_setCell_other w1 ⟨B, 2, none⟩ ⟨B, 3, none⟩ (.int .i64 h.hLo) (by intro e; injection e; omega)).trans t3
        have t2 := (World.cell?_setCell_other _ ⟨B, 3, none⟩ ⟨B, 2, none⟩ (.int .i64 h.hHi) (by intro e; injection e; omega)).trans (World.cell?_setCell_same w1 ⟨B, 2, none⟩ (.int .i64 h.hLo) t2)
        have t3 := World.cell?_setCell_same _ ⟨B, 3, none⟩ (.int .i64 h.hHi) t3'
        clear t3' g2 g3 hown1 hB1 f2 f3 c5 c6
        generalize (w1.setCell ⟨B, 2, none⟩ (.int .i64 h.hLo)).setCell ⟨B, 3, none⟩ (.int .i64 h.hHi) = X4 at *
        have t4 := new_tie X4 (.iface 79 (.agg #[])) (.iface 94 (.int .i64 e)) h.hLo h.hHi 129
        have hX5 := newB X4 (.cells #[.iface 79 (.agg #[]), .iface 94 (.int .i64 e), .int .i64 h.hLo, .int .i64 h.hHi] 129)
        have hB5 := BT hB4 hX5
        have hR5 := hR4.alloc (.cells #[.iface 79 (.agg #[]), .iface 94 (.int .i64 e), .int .i64 h.hLo, .int .i64 h.hHi] 129)
        have h1c := tieV_one (habT h H e)
        rw [hv.out] at h1c
        clear hB4 hX5 hR4
        go_wp2_with (at_builtin; refine wpList_append_fits _ rfl _ _ 99 rfl w.heap.size 129 it 4 Tryz.underlying99 hi9 hz1 g e (E + h.ln) _ rfl hR5 ⟨X4.heap.size, 0, none⟩ 1 1 _ rfl rfl t4 h1c (by omega) ?_; intro X6 hR6 hg6)
        have hB6 : Below w.heap.size w X6 := hB5.grown hg6 hB5.size (fun k e => by injection e with e; omega)
        go_roundw
        case rel => exact ⟨e + 1, by omega, by go_num, rfl, by rw [hst.out, List.flatMap_append]; simp only [List.flatMap_cons, List.flatMap_nil, List.append_nil]; rw [hv.out]; exact hR6, hB6⟩
        case measure => simp [intOf]; omega
    · obtain rfl : e = E := by omega
      have hIr := HI.out.grown hB
      obtain ⟨c0, c1, c2, c3, c4', c5, c6, c7⟩ := hIr.box
      clear c0 c1 c2 c3 c4' c5 c6 hIr
      have HR2 := Lib.hid hown
      have HB2 := Lib.hid hB
      have hnle : Hid (ls.length = h.ln) := hnl
      have hlnle : Hid (h.ln ≤ 12) := hln
      clear hown hB HIX hlp hnl
      go_wp2_with fail
      go_loopw [7, 58] (fun v i wr => ∃ k : Nat, k ≤ h.ln ∧ i = .int .i64 k ∧ v = .slice (some ⟨g, 0, none⟩) (e + (tvL ls ts S k).length) (e + h.ln) ∧ wr.ownsRow w.heap.size 129 4 (.slice (some ⟨g, 0, none⟩) (e + (tvL ls ts S k).length) (e + h.ln)) (e + (tvL ls ts S k).length) ((tvE h H e ++ tvL ls ts S k).flatMap tieV) ∧ Below w.heap.size w wr) (fun _ i _ => h.ln - (intOf i).toNat)
      case atStart => exact ⟨0, by omega, rfl, rfl, by simpa [tvL] using HR2.out, HB2.out⟩
      case round =>
        obtain ⟨k, hk, rfl, rfl, hown, hB⟩ := hrel
        by_cases hlt : k < h.ln
        · have hlt' : (k : Int) < (h.ln : Int) := by omega
          have hkl : k < ls.length := by rw [hnle.out]; exact hlt
          have hHe := Lib.hid (HS.out k (by omega))
          have hk0 : (0 : Int) ≤ (k : Int) := by omega
          have hk4 : (k : Int) ≤ 12 := by omega
          rcases HLK.out with hnil | ⟨bt, ot, hla, hbt, hct⟩
          · exfalso; rw [hnil] at hkl; simp at hkl
          obtain ⟨d0, d1, d2, d3⟩ := hct k hkl
          have hIr := HI.out.grown hB
          obtain ⟨gt, capt, htv, hgt, y0, y1⟩ := hIr.trav (j := k) (by omega)
          have c8 := hIr.c8
          rw [htv] at c8
          obtain ⟨c0, c1, c2, c3, c4', c5, c6, c7⟩ := hIr.box
          clear c0 c1 c2 c3 c4' c5 c6 hIr
          obtain ⟨p0, p1⟩ := HLS.out k hkl
          have d0 := cellB d0 hB
          have d1 := cellB d1 hB
          have d2 := cellB d2 hB
          rw [hla] at c7 ⊢
          have HLA := Lib.hid hla
          clear hla
          have hbr : bt < wr.heap.size := by have := hB.size; omega
          have hml : Hid ((tvL ls ts S k).length ≤ k) := tvL_len ls ts S k
          have hlk : Hid (tieV (lookT ls ts k) = [.iface 94 (.int .i64 (ls.getD k (0, 0, 0)).1), .iface 81 (.int .i64 (ls.getD k (0, 0, 0)).2.1), .int .i64 (ts.getD k (0, 0)).1, .int .i64 (ts.getD k (0, 0)).2]) := by
            show _ = _
            unfold lookT tieV One.val
            simp only [Int.toNat_of_nonneg p0, Int.toNat_of_nonneg p1]
          clear hct d3 p0 p1
          generalize ls.getD k (0, 0, 0) = lv at d0 d1 d2 hlk
          generalize ts.getD k (0, 0) = tk at y0 y1 hlk
          obtain ⟨ey, im, rd⟩ := lv
          obtain ⟨lo, hi⟩ := tk
          dsimp only at d0 d1 d2 y0 y1 hlk
          have HT := Lib.hid htv
          clear htv
          have hkt : (k : Int) < (ts.length : Int) := by omega
          go_wp2_with fail
          refine (hHe.out _).mono ?_
          rintro e' w1 ⟨rfl, hb1⟩
          have hZ := newB wr (.cells #[.int .i64 ey, .int .i64 im, .int .i64 rd] 36)
          have hZ1 := BT hZ hb1
          have t0 := cellB (show (wr.alloc (.cells #[.int .i64 ey, .int .i64 im, .int .i64 rd] 36)).cell? ⟨wr.heap.size, 0, none⟩ = some (.int .i64 ey) by simp [go_sem]) hb1
          have t1 := cellB (show (wr.alloc (.cells #[.int .i64 ey, .int .i64 im, .int .i64 rd] 36)).cell? ⟨wr.heap.size, 1, none⟩ = some (.int .i64 im) by simp [go_sem]) hb1
          have c8 := cellB c8 hZ1
          have y0 := cellB y0 hZ1
          have y1 := cellB y1 hZ1
          have hown1 := hown.kept (row := none) ⟨hZ1.os, hZ1.tape, hZ1.output, hZ1.size, fun i hi _ => hZ1.block i hi⟩ (.inr (by simp [Value.ownBlock]))
          have hB1 := BT hB hZ1
          have hgl : g < wr.heap.size := (hown.lt g rfl).2
          have hL0 : L < w1.heap.size := World.block_lt_of_cell? _ _ c8
          clear hown hZ hZ1 hb1 hB d0 d1 d2 c7 hgt hbr
          generalize wr.heap.size = B at *
          cases hq : setI S k
          · have hno : Hid (tvL ls ts S (k + 1) = tvL ls ts S k) := tvL_no ls ts hq
            have HO := Lib.hid hown1
            have HB1 := Lib.hid hB1
            clear hown1 hB1 t0 t1 c8 y0 y1
            generalize (tvL ls ts S k) = tl at *
            go_wp2_with fail
            go_roundw
            case rel => exact ⟨k + 1, by omega, by go_num, by rw [hno.out], by rw [hno.out]; exact HO.out, HB1.out⟩
            case measure => simp [intOf]; omega
          · have hyes : Hid (tvL ls ts S (k + 1) = tvL ls ts S k ++ [lookT ls ts k]) := tvL_yes ls ts hq
            generalize lookT ls ts k = lt at hlk hyes
            generalize (tvL ls ts S k) = tl at *
            have HO := Lib.hid hown1
            have HB1 := Lib.hid hB1
            clear hown1 hB1
            go_wp2_with fail
            refine wp_region_seq [(0, true), (1, true), (2, true), (3, true), (4, true), (5, true), (6, true), (7, true), (8, true), (9, true), (10, true), (11, true), (12, true), (13, true), (14, true), (15, false), (16, false), (17, true)]
              (fun w' => w'.cell? ⟨B, 0, none⟩ = some (.int .i64 ey) ∧ w'.cell? ⟨B, 1, none⟩ = some (.int .i64 im) ∧ w'.cell? ⟨L, 8, none⟩ = some (.slice (some ⟨gt, 0, none⟩) ts.length capt) ∧ w'.cell? ⟨gt, k * 2, none⟩ = some (.int .i64 lo) ∧ w'.cell? ⟨gt, k * 2 + 1, none⟩ = some (.int .i64 hi)) (by kernel_rfl) (by kernel_rfl) (fun _ _ d _ _ h => by cases d <;> exact h) ⟨t0, t1, c8, y0, y1⟩ ?_
            repeat (first | (refine seq_read rfl (by rfl) _ (fun w' hS => by (try dsimp only at hS); go_simp; (try with_reducible rfl)) ?_; (try simp only [Act.put, List.setIfInBounds_toArray, List.set_cons_zero, List.set_cons_succ])) | (refine seq_skip rfl (by rfl) ?_; (try simp only [Act.put, List.setIfInBounds_toArray, List.set_cons_zero, List.set_cons_succ])))
            refine seq_do rfl (by rfl) (fun K hK => ?_)
            go_simp
            have hX5 : Below w1.heap.size w1 (w1.alloc (.cells #[.iface 94 (.int .i64 ey), .iface 81 (.int .i64 im), .int .i64 lo, .int .i64 hi] 129)).drew := Below.drew (BA (Below.refl _ _) _)
            have t4 : ∀ j u, [Value.iface 94 (.int .i64 ey), .iface 81 (.int .i64 im), .int .i64 lo, .int .i64 hi][j]? = some u → (w1.alloc (.cells #[.iface 94 (.int .i64 ey), .iface 81 (.int .i64 im), .int .i64 lo, .int .i64 hi] 129)).drew.cell? ((⟨w1.heap.size, 0, none⟩ : Addr).add j) = some u := new_tie w1 (.iface 94 (.int .i64 ey)) (.iface 81 (.int .i64 im)) lo hi 129
            have t0 := cellB t0 hX5
            have t1 := cellB t1 hX5
            have c8 := cellB c8 hX5
            have y0 := cellB y0 hX5
            have y1 := cellB y1 hX5
            refine hK _ _ ⟨t0, t1, c8, y0, y1⟩ ?_
            clear hK K
            (try simp only [Act.put, List.setIfInBounds_toArray, List.set_cons_zero, List.set_cons_succ])
            have hR5 : World.ownsRow _ _ _ _ _ _ _ := (HO.out.alloc (.cells #[.iface 94 (.int .i64 ey), .iface 81 (.int .i64 im), .int .i64 lo, .int .i64 hi] 129)).drew
            have hB5 := BT HB1.out hX5
            have h1c := tieV_one lt
            rw [hlk.out] at h1c
            have hgB : g ≠ B := by omega
            have hgL : g ≠ L := by omega
            have hgt : g ≠ gt := by
              have hlt := (HI.out.row.lt gt (by rw [HT.out]; rfl)).2
              omega
            refine seq_do rfl (by rfl) (fun K hK => ?_)
            refine wp_append_fits _ _ 99 rfl w.heap.size 129 it 4 Tryz.underlying99 hi9 hz1 g (e + tl.length) (e + h.ln) _ rfl hR5 ⟨w1.heap.size, 0, none⟩ 1 1 _ rfl rfl t4 h1c (by have := hml.out; omega) ?_
            intro X6 hR6 hg6
            have hB6 := Lib.hid (show Below w.heap.size w X6 from hB5.grown hg6 hB5.size (fun k e => by injection e with e; omega))
            refine hK _ _ ⟨hg6.cell t0 (by simp; omega), hg6.cell t1 (by simp; omega), hg6.cell c8 (by simp; omega), hg6.cell y0 (by simp; omega), hg6.cell y1 (by simp; omega)⟩ ?_
            clear hK K hB5 hX5 t0 t1 c8 y0 y1 t4 h1c hg6
            have HR6 : Hid (X6.ownsRow w.heap.size 129 4 (.slice (some ⟨g, 0, none⟩) (e + tl.length + 1) (e + h.ln)) (e + tl.length + 1) (List.flatMap tieV (tvE h H e ++ tl) ++ [Value.iface 94 (.int .i64 ey), .iface 81 (.int .i64 im), .int .i64 lo, .int .i64 hi])) := hR6
            clear hR6 hR5 HO HB1
            (try simp only [Act.put, List.setIfInBounds_toArray, List.set_cons_zero, List.set_cons_succ])
            repeat (first | (refine seq_read rfl (by rfl) _ (fun w' hS => by (try dsimp only at hS); go_simp; (try with_reducible rfl)) ?_; (try simp only [Act.put, List.setIfInBounds_toArray, List.set_cons_zero, List.set_cons_succ])) | (refine seq_skip rfl (by rfl) ?_; (try simp only [Act.put, List.setIfInBounds_toArray, List.set_cons_zero, List.set_cons_succ])))
            apply seq_end
            first | show Exit.inBlock _ _ Exit.normal _ _ | show Exit.then _ _ Exit.normal _ _
            go_wp2_with fail
            go_roundw
            case rel => exact ⟨k + 1, by omega, by go_num, by rw [hyes.out, List.length_append]; rfl, by rw [hyes.out, ← List.append_assoc, List.flatMap_append, List.length_append]; simp only [List.flatMap_cons, List.flatMap_nil, List.append_nil]; rw [hlk.out]; exact HR6.out, hB6.out⟩
            case measure => simp [intOf]; omega
        · obtain rfl : k = h.ln := by omega
          have HO := Lib.hid hown
          have HB1 := Lib.hid hB
          clear hown hB
          have hlen : Hid ((tvE h H e ++ tvL ls ts S ls.length).length = e + (tvL ls ts S h.ln).length) := by show _ = _; rw [List.length_append, tvE_len, hnle.out]
          go_wp2_with fail
          go_ret
          refine ⟨g, e + h.ln, ?_, ?_, HB1.out⟩
          · rw [hlen.out]; rfl
          · rw [hlen.out, hnle.out]; exact HO.out
end Ey
end Go.Proofs.YtcfjakifeihbpaaGreat
