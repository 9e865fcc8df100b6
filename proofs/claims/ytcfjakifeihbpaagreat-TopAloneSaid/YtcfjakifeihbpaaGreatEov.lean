/- Eye: bounds narrowed until nothing changes: the walk. -/
import Derived.Test.YtcfjakifeihbpaaGreatEnu
import Derived.Deep.CutRange
import Derived.Deep.DeepCutAuto
namespace Go.Proofs.YtcfjakifeihbpaaGreat
namespace Ey
open Go.RowKit Go.Maps Go.Shelf Nb

theorem wp_insB {X : World} {mb n : Nat} {b : B} {ops : Array Oper} {rest : List Oper} {o : Oper} {a : Act} {Q : Exit → Act → World → Prop} (hg : o.guard = none) (m x v : Operand) (hop : o.op = Op.insert 76 m x v) (hm : a.eval m = .map (some mb)) (h : OwnB X mb n b) (hn : n < 1000000) (k : Nat) (hk : k < 11) (hx : a.eval x = .int .i64 (k : Int)) (c d : Int) (hv : a.eval v = .agg #[.int .i64 c, .int .i64 d])
    (hK : ∀ X', OwnB X' mb (n + 1) (upd b k (c, d)) → X.grownBy X' (some mb) → wpList Tryz.prog ops Q rest (a.put o.dst undef) X') : wpList Tryz.prog ops Q (o :: rest) a X := by
  obtain ⟨D, h1, h2⟩ := h
  refine wpList_plain hg fun K' hK' => ?_
  obtain ⟨w', hrun, r1, r2⟩ := h1.update keyed3 map69 (show n < maxLen by unfold maxLen; omega) (keyOf_int_mk Tryz.underlying3 (wf_key hk)) (spanElem_mk c d)
  unfold Oper.wp
  simp [execOp, hop, hm, hx, hv, hrun, Result.andThen]
  exact hK' _ _ (hK w' ⟨_, r1, OwnB.put hk h1.isMap h2⟩ r2)
/-- A tie as it lies in memory. -/
abbrev TieV := One × One × Int × Int
def tiOf (t : TieV) : Ti := ⟨t.1.num, t.2.1.num, t.2.2.1, t.2.2.2⟩
def TiesIn (X : World) (a : Option Addr) (l : List TieV) : Prop :=
  l = [] ∨ ∃ b o, a = some ⟨b, o, none⟩ ∧ b < X.heap.size ∧ ∀ k, k < l.length → X.cell? ⟨b, o + k * 4, none⟩ = some (l.getD k (.z, .z, 0, 0)).1.val ∧ X.cell? ⟨b, o + k * 4 + 1, none⟩ = some (l.getD k (.z, .z, 0, 0)).2.1.val ∧
    X.cell? ⟨b, o + k * 4 + 2, none⟩ = some (.int .i64 (l.getD k (.z, .z, 0, 0)).2.2.1) ∧ X.cell? ⟨b, o + k * 4 + 3, none⟩ = some (.int .i64 (l.getD k (.z, .z, 0, 0)).2.2.2)
structure TieOk (x : TieV) : Prop where
  f : x.1.num < 11
  t : x.2.1.num < 11
  b : (-1000000 ≤ x.2.2.1 ∧ x.2.2.1 ≤ 1000000) ∧ -1000000 ≤ x.2.2.2 ∧ x.2.2.2 ≤ 1000000
def BdN (m : Nat) (st : St) : Prop := ∀ k s, st.1 k = some s → (-(1000000 * (m : Int)) ≤ s.1 ∧ s.1 ≤ 1000000 * (m : Int)) ∧ -(1000000 * (m : Int)) ≤ s.2 ∧ s.2 ≤ 1000000 * (m : Int)
theorem BdN.nar {m : Nat} {st : St} (h : BdN m st) {f t : Nat} {lo hi : Int} (hb : (-1000000 ≤ lo ∧ lo ≤ 1000000) ∧ -1000000 ≤ hi ∧ hi ≤ 1000000) : BdN (m + 1) (nar st f t lo hi) := by
  have hm : (1000000 : Int) * ((m + 1 : Nat) : Int) = 1000000 * (m : Int) + 1000000 := by omega
  rcases nar_cases st f t lo hi with ⟨h1, _⟩ | ⟨s, n, e1, h1, l, r, h3⟩
  · rw [h1]
    intro k s hs
    have := h k s hs
    rw [hm]; omega
  · rw [h1]
    intro k q hk
    rw [hm]
    by_cases e : k = t
    · subst e
      have hk := (upd_at st.1 k n).symm.trans hk
      cases hk
      have a1 := h f s e1
      rcases h3 with ⟨_, h5⟩ | ⟨o, h4, h5⟩
      · rw [h5]; simp only; omega
      · have a2 := h k o h4
        rw [h5]; simp only; omega
    · have := h k q ((upd_ne st.1 n e).symm.trans hk)
      omega
theorem BdN.bd {m : Nat} {st : St} (h : BdN m st) (hm : m ≤ 400) : BdS st := fun k s hs => by
  have := h k s hs
  omega
theorem BdN.mono {m m' : Nat} {st : St} (h : BdN m st) (hm : m ≤ m') : BdN m' st := fun k s hs => by
  have := h k s hs
  omega
theorem over_succ (ties : List Ti) (n : Nat) (b : B) : overF ties (n + 1) b = if (roundS ties b).2.2 = true then none else if (roundS ties b).2.1 = true then overF ties n (roundS ties b).1 else some (roundS ties b).1 := rfl
theorem over_step {ties : List Ti} {b b' : B} {c : Bool} (h : roundS ties b = (b', c, false)) (n : Nat) : overF ties (n + 1) b = if c = true then overF ties n b' else some b' := by
  rw [over_succ, h]
  rfl
theorem over_stop {ties : List Ti} {b : B} (h : (roundS ties b).2.2 = true) (n : Nat) : overF ties (n + 1) b = none := by
  rw [over_succ, h]
  rfl
theorem emp_keep (ts : List Ti) : ∀ st : St, st.2.2 = true → (ts.foldl tieS st).2.2 = true := by
  induction ts with
  | nil => exact fun st h => h
  | cons t ts ih => exact fun st h => ih _ (nar_keep (nar_keep h))
theorem fold_take {l : List TieV} {k : Nat} (hk : k < l.length) (s : St) : ((l.take (k + 1)).map tiOf).foldl tieS s = tieS (((l.take k).map tiOf).foldl tieS s) (tiOf (l.getD k (.z, .z, 0, 0))) := by
  rw [List.take_succ_eq_append_getElem hk, List.map_append, List.foldl_append]
  simp [List.getD, hk]
theorem fold_split {l : List TieV} {k : Nat} (s : St) (h : (((l.take k).map tiOf).foldl tieS s).2.2 = true) : ((l.map tiOf).foldl tieS s).2.2 = true := by
  have e : l.map tiOf = (l.take k).map tiOf ++ (l.drop k).map tiOf := by rw [← List.map_append, List.take_append_drop]
  rw [e, List.foldl_append]
  exact emp_keep _ _ h
def OverR (w : World) (r : Option B) (e : Ending) (w' : World) : Prop :=
  match r with
  | none => e = .returned (.tuple #[.map none, .bool false]) ∧ Below w.heap.size w w'
  | some b => ∃ mb n, (e = .returned (.tuple #[.map (some mb), .bool true]) ∧ OwnB w' mb n b) ∧ w.heap.size ≤ mb ∧ Below w.heap.size w w'
set_option maxRecDepth 100000 in
set_option maxHeartbeats 8000000 in
theorem over_any (base : One) (l : List TieV) (hb : base.num < 11) (hl : ∀ t ∈ l, TieOk t) (hlen : l.length ≤ 16) (a : Option Addr) (cap : Nat) (w : World) (ht : TiesIn w a l) :
    Calls Tryz.prog 64 #[base.val, .slice a l.length cap] w (OverR w (overF (l.map tiOf) 11 (Nb.start base.num))) := by
  have hmf : ∀ (fn : Fn) (first cap : Array Value) (w : World), (Instr.makeFunc fn first cap).run Tryz.prog w = .ok (.func fn first cap) w := fun _ _ _ _ => rfl
  have hmm := @run_makeMap Tryz.prog
  obtain ⟨T, F, v, hv, hm, hent, hn⟩ := oneAt base hb
  rw [hv]
  have HN := Lib.hid hn
  have HT := Lib.hid ht
  have HL := Lib.hid hl
  have hZ := newB w (.map #[] 0)
  have hO := Lib.hid (ownB_made w)
  generalize hR : overF (l.map tiOf) 11 (Nb.start base.num) = R
  have HR := Lib.hid hR
  clear hv hn ht hl hR
  go_enter Tryz.func64, Tryz.ntmps64
  go_wp2_with fail
  refine (HN.out _).mono ?_
  rintro e w1 ⟨rfl, hb1⟩
  have hB1 := BT hZ hb1
  have hO1 := Lib.hid (hO.out.kept (grown_below hb1 none) (by simp))
  clear hm hent HN hb1 hZ hO
  go_wp2_with (refine wp_insB rfl (.tmp 14) (.tmp 16) (.tmp 17) rfl rfl hO1.out (by omega) base.num hb rfl 0 0 (by rfl) ?_)
  intro X' hown hgr
  have es : upd (fun _ => none) base.num (0, 0) = Nb.start base.num := rfl
  rw [es] at hown
  clear es hO1
  have hB2 : Below w.heap.size w X' := hB1.grown hgr hB1.size (fun k e => by injection e with e; omega)
  have hmX := hown.lt
  have hw1 : w.heap.size ≤ X'.heap.size := hB2.size
  have hN : Hid (NS (((X'.alloc (.cells #[.map (some w.heap.size)] 76)).alloc (.cells #[.bool false] 4)).alloc (.cells #[.bool false] 4)) X'.heap.size (X'.heap.size + 1) (X'.heap.size + 1 + 1) w.heap.size 1 (Nb.start base.num, false, false)) := by
    have hD : Below X'.heap.size X' (((X'.alloc (.cells #[.map (some w.heap.size)] 76)).alloc (.cells #[.bool false] 4)).alloc (.cells #[.bool false] 4)) := BA (BA (BA (Below.refl _ _) _) _) _
    refine ⟨by simp [go_sem], hown.kept (grown_below hD none) (by simp), by simp [go_sem], by simp [go_sem], ?_, ?_⟩
    · intro o ho
      obtain rfl : o = 0 := by omega
      simp [go_sem]
    · intro o ho
      obtain rfl : o = 0 := by omega
      simp [go_sem]
  have hB3 : Below w.heap.size w (((X'.alloc (.cells #[.map (some w.heap.size)] 76)).alloc (.cells #[.bool false] 4)).alloc (.cells #[.bool false] 4)) := BA (BA (BA hB2 _) _) _
  go_upto_region 5 with fail
  have hno : NO X'.heap.size (X'.heap.size + 1) (X'.heap.size + 1 + 1) w.heap.size := ⟨by omega, by omega, by omega, by omega, by omega, by omega⟩
  have hgw : w.heap.size ≤ X'.heap.size := hw1
  clear hown hgr hB2 hB1 hmX hw1 hmm
  generalize ((X'.alloc (.cells #[.map (some w.heap.size)] 76)).alloc (.cells #[.bool false] 4)).alloc (.cells #[.bool false] 4) = W at hN hB3 ⊢
  generalize X'.heap.size = gB at hN hno hgw ⊢
  have hlI : (l.length : Int) ≤ 16 := by omega
  have hbd0 : Hid (BdN (32 * 0) (Nb.start base.num, false, false)) := fun k s hs => by
    have := start_ne base.num
    dsimp only at hs
    unfold Nb.start at hs
    by_cases e : k = base.num
    · rw [if_pos e] at hs; cases hs; simp
    · rw [if_neg e] at hs; cases hs
  go_loopw [20] (fun i wr => ∃ (r n : Nat) (b : B) (ch : Bool), r ≤ 11 ∧ i = .int .i64 r ∧ Hid (NS wr gB (gB + 1) (gB + 1 + 1) w.heap.size n (b, ch, false)) ∧ n ≤ 1 + 32 * r ∧ Hid (BdN (32 * r) (b, false, false)) ∧ Hid (overF (l.map tiOf) (11 - r) b = R) ∧ Below w.heap.size w wr) (fun i _ => 11 - (intOf i).toNat)
  case atStart => exact ⟨0, 1, _, false, by omega, rfl, hN, by omega, hbd0, HR, hB3⟩
  case round =>
    clear hN hB3 hbd0 HR
    obtain ⟨r, n, b, ch, hr, rfl, hNS, hn, hbd, hov, hB⟩ := hrel
    have hr0 : (0 : Int) ≤ (r : Int) := by omega
    by_cases hlt : r < 11
    · have hrI : (r : Int) < 11 := by omega
      obtain ⟨u, p, f⟩ := hNS.out.sc.get 0 (by omega)
      have hN1 := Lib.hid (hNS.out.setC hno false)
      have hB1 : Below w.heap.size w (wr.setCell ⟨gB + 1, 0, none⟩ (.bool false)) := BC hB (gB + 1) 0 (by omega) _
      clear hNS hB
      go_upto_region 8 with fail
      clear p f
      generalize wr.setCell ⟨gB + 1, 0, none⟩ (.bool false) = wo at hN1 hB1 ⊢
      go_loopw [24] (fun i wr => ∃ (k m : Nat) (st : St), k ≤ l.length ∧ i = .int .i64 k ∧ Hid (NS wr gB (gB + 1) (gB + 1 + 1) w.heap.size m st) ∧ m ≤ n + 2 * k ∧ Hid (BdN (32 * r + 2 * k) st) ∧ Hid (((l.take k).map tiOf).foldl tieS (b, false, false) = st) ∧ Hid (st.2.2 = false) ∧ Below w.heap.size w wr) (fun i _ => l.length - (intOf i).toNat)
      case atStart => exact ⟨0, n, (b, false, false), by omega, rfl, hN1, by omega, hbd, rfl, rfl, hB1⟩
      case round =>
        clear hN1 hB1 hbd
        obtain ⟨k, m, st, hk, rfl, hNS, hm, hbd, hfo, hem, hB⟩ := hrel
        have hk0 : (0 : Int) ≤ (k : Int) := by omega
        by_cases hkl : k < l.length
        · skip
          obtain ⟨bt, ot, rfl, hbt, hct⟩ : ∃ bt ot, a = some ⟨bt, ot, none⟩ ∧ bt < w.heap.size ∧ ∀ k, k < l.length → w.cell? ⟨bt, ot + k * 4, none⟩ = some (l.getD k (.z, .z, 0, 0)).1.val ∧ w.cell? ⟨bt, ot + k * 4 + 1, none⟩ = some (l.getD k (.z, .z, 0, 0)).2.1.val ∧ w.cell? ⟨bt, ot + k * 4 + 2, none⟩ = some (.int .i64 (l.getD k (.z, .z, 0, 0)).2.2.1) ∧ w.cell? ⟨bt, ot + k * 4 + 3, none⟩ = some (.int .i64 (l.getD k (.z, .z, 0, 0)).2.2.2) := by
            rcases HT.out with h0 | h0
            · rw [h0] at hkl; simp at hkl
            · exact h0
          obtain ⟨d0, d1, d2, d3⟩ := hct k hkl
          have hto := HL.out (l.getD k (.z, .z, 0, 0)) (by simp [List.getD, hkl])
          have hft := Lib.hid (fold_take hkl (b, false, false))
          rw [hfo.out] at hft
          have hkI : (k : Int) < (l.length : Int) := by omega
          clear hct
          generalize l.getD k (.z, .z, 0, 0) = tv at d0 d1 d2 d3 hto hft
          obtain ⟨x, y, lo, hi⟩ := tv
          obtain ⟨ox, oy, ⟨q0, q1⟩, q2, q3⟩ := hto
          dsimp only at d0 d1 d2 d3 ox oy q0 q1 q2 q3
          have g0 := (hB.cell (p := ⟨bt, ot + k * 4, none⟩) hbt).trans d0
          have g1 := (hB.cell (p := ⟨bt, ot + k * 4 + 1, none⟩) hbt).trans d1
          have g2 := (hB.cell (p := ⟨bt, ot + k * 4 + 2, none⟩) hbt).trans d2
          have g3 := (hB.cell (p := ⟨bt, ot + k * 4 + 3, none⟩) hbt).trans d3
          obtain ⟨T1, F1, v1, hv1, hm1, hent1, hn1⟩ := oneAt x ox
          obtain ⟨T2, F2, v2, hv2, hm2, hent2, hn2⟩ := oneAt y oy
          rw [hv1] at g0
          rw [hv2] at g1
          have HN1 := Lib.hid hn1
          have HN2 := Lib.hid hn2
          clear d0 d1 d2 d3 hv1 hv2 hn1 hn2
          go_upto_region 10 with fail
          clear g0 g1 g2 g3
          have hZ := newB wr (.cells #[.iface T1 v1, .iface T2 v2, .int .i64 lo, .int .i64 hi] 129)
          have t0 : (wr.alloc (.cells #[.iface T1 v1, .iface T2 v2, .int .i64 lo, .int .i64 hi] 129)).cell? ⟨wr.heap.size, 0, none⟩ = some (.iface T1 v1) := by simp [go_sem]
          have t1 : (wr.alloc (.cells #[.iface T1 v1, .iface T2 v2, .int .i64 lo, .int .i64 hi] 129)).cell? ⟨wr.heap.size, 1, none⟩ = some (.iface T2 v2) := by simp [go_sem]
          have t2 : (wr.alloc (.cells #[.iface T1 v1, .iface T2 v2, .int .i64 lo, .int .i64 hi] 129)).cell? ⟨wr.heap.size, 2, none⟩ = some (.int .i64 lo) := by simp [go_sem]
          have t3 : (wr.alloc (.cells #[.iface T1 v1, .iface T2 v2, .int .i64 lo, .int .i64 hi] 129)).cell? ⟨wr.heap.size, 3, none⟩ = some (.int .i64 hi) := by simp [go_sem]
          have x1 : gB < wr.heap.size := World.block_lt_of_cell? _ _ hNS.out.cb
          have x2 : gB + 1 < wr.heap.size := World.block_lt_of_cell? _ _ hNS.out.cc
          have x3 : gB + 1 + 1 < wr.heap.size := World.block_lt_of_cell? _ _ hNS.out.ce
          have x4 : w.heap.size < wr.heap.size := hNS.out.own.lt
          have hNd := Lib.hid ((hNS.out.grown hZ).grown (Below.drew (Below.refl _ _)))
          have hBd : Below w.heap.size w (wr.alloc (.cells #[.iface T1 v1, .iface T2 v2, .int .i64 lo, .int .i64 hi] 129)).drew := Below.drew (BA hB _)
          clear hNS hB hZ
          refine wp_region_seq [(0, true), (1, true), (3, true), (4, true), (2, false), (5, false), (6, true), (7, true)] (fun w' => w'.cell? ⟨wr.heap.size, 0, none⟩ = some (.iface T1 v1) ∧ w'.cell? ⟨wr.heap.size, 1, none⟩ = some (.iface T2 v2)) (by kernel_rfl) (by kernel_rfl) (fun _ _ d _ _ h => by cases d <;> exact h) ⟨t0, t1⟩ ?_
          obtain ⟨X0, hX0⟩ : ∃ X0, (wr.alloc (.cells #[.iface T1 v1, .iface T2 v2, .int .i64 lo, .int .i64 hi] 129)).drew = X0 := ⟨_, rfl⟩
          have t0 : X0.cell? ⟨wr.heap.size, 0, none⟩ = some (.iface T1 v1) := by rw [← hX0]; exact t0
          have t1 : X0.cell? ⟨wr.heap.size, 1, none⟩ = some (.iface T2 v2) := by rw [← hX0]; exact t1
          have t2 : X0.cell? ⟨wr.heap.size, 2, none⟩ = some (.int .i64 lo) := by rw [← hX0]; exact t2
          have t3 : X0.cell? ⟨wr.heap.size, 3, none⟩ = some (.int .i64 hi) := by rw [← hX0]; exact t3
          rw [hX0] at hNd hBd ⊢
          clear hX0
          generalize wr.heap.size = gT at t0 t1 t2 t3 x1 x2 x3 x4 ⊢
          repeat (first | (refine seq_read rfl (by rfl) _ (fun w' hS => by (try dsimp only at hS); go_simp; (try with_reducible rfl)) ?_; (try simp only [Act.put, List.setIfInBounds_toArray, List.set_cons_zero, List.set_cons_succ])) | (refine seq_skip rfl (by rfl) ?_; (try simp only [Act.put, List.setIfInBounds_toArray, List.set_cons_zero, List.set_cons_succ])))
          refine seq_do rfl (by rfl) (fun K hK => ?_)
          go_simp
          refine (HN1.out _).mono ?_
          rintro e X1 ⟨rfl, hb1⟩
          have hN1 := Lib.hid (hNd.out.grown hb1)
          have hB1 := BT hBd hb1
          have t0 := cellB t0 hb1
          have t1 := cellB t1 hb1
          have t2 := cellB t2 hb1
          have t3 := cellB t3 hb1
          refine hK _ _ ⟨t0, t1⟩ ?_
          clear hK K hNd hBd hb1
          (try simp only [Act.put, List.setIfInBounds_toArray, List.set_cons_zero, List.set_cons_succ])
          refine seq_do rfl (by rfl) (fun K hK => ?_)
          go_simp
          refine (HN2.out _).mono ?_
          rintro e X2 ⟨rfl, hb1⟩
          have hN2 := Lib.hid (hN1.out.grown hb1)
          have hB2 := BT hB1 hb1
          have t0 := cellB t0 hb1
          have t1 := cellB t1 hb1
          have t2 := cellB t2 hb1
          have t3 := cellB t3 hb1
          refine hK _ _ ⟨t0, t1⟩ ?_
          clear hK K hN1 hB1 hb1
          (try simp only [Act.put, List.setIfInBounds_toArray, List.set_cons_zero, List.set_cons_succ])
          repeat (first | (refine seq_read rfl (by rfl) _ (fun w' hS => by (try dsimp only at hS); go_simp; (try with_reducible rfl)) ?_; (try simp only [Act.put, List.setIfInBounds_toArray, List.set_cons_zero, List.set_cons_succ])) | (refine seq_skip rfl (by rfl) ?_; (try simp only [Act.put, List.setIfInBounds_toArray, List.set_cons_zero, List.set_cons_succ])))
          refine seq_end ?_
          first | show Exit.inBlock _ _ Exit.normal _ _ | show Exit.then _ _ Exit.normal _ _
          clear t0 t1 hm1 hm2 hent1 hent2
          go_wp2_with fail
          refine (narrow_any gB (gB + 1) (gB + 1 + 1) w.heap.size m x.num y.num lo hi st X2 hN2.out hno ox oy (by omega) (hbd.out.bd (by omega)) ⟨⟨q0, q1⟩, q2, q3⟩).mono ?_
          rintro e X3 ⟨m1, ⟨rfl, hN3⟩, hm3, hb3⟩
          have gz1 : gT ≠ w.heap.size := by omega
          have gz2 : gT ≠ gB + 1 := by omega
          have gz3 : gT ≠ gB + 1 + 1 := by omega
          have t2 := hb3.cell t2 gz1 gz2 gz3
          have t3 := hb3.cell t3 gz1 gz2 gz3
          have hB3 : Below w.heap.size w X3 := B3.below hB2 hb3 hB2.size (by omega) (by omega) (by omega)
          clear hN2 hB2 hb3 HN1 HN2
          go_wp2_with fail
          refine (turn_any lo hi _ ⟨⟨by omega, by omega⟩, by omega, by omega⟩).mono ?_
          rintro e X4 ⟨rfl, hb4⟩
          have hN4 := hN3.grown hb4
          have hB4 := BT hB3 hb4
          clear hN3 hB3 hb4 t2 t3
          have hbn : BdN (32 * r + 2 * k + 1) (nar st x.num y.num lo hi) := hbd.out.nar ⟨⟨q0, q1⟩, q2, q3⟩
          go_wp2_with fail
          refine (narrow_any gB (gB + 1) (gB + 1 + 1) w.heap.size m1 y.num x.num (-hi) (-lo) _ X4 hN4 hno oy ox (by omega) (hbn.bd (by omega)) ⟨⟨by omega, by omega⟩, by omega, by omega⟩).mono ?_
          rintro e X5 ⟨m2, ⟨rfl, hN5⟩, hm5, hb5⟩
          have hB5 : Below w.heap.size w X5 := B3.below hB4 hb5 hB4.size (by omega) (by omega) (by omega)
          have hbm := hbn.nar (f := y.num) (t := x.num) (lo := -hi) (hi := -lo) ⟨⟨by omega, by omega⟩, by omega, by omega⟩
          have hft2 : Hid (((l.take (k + 1)).map tiOf).foldl tieS (b, false, false) = nar (nar st x.num y.num lo hi) y.num x.num (-hi) (-lo)) := hft.out
          clear hN4 hB4 hb5 hbn hft hfo hbd
          generalize nar (nar st x.num y.num lo hi) y.num x.num (-hi) (-lo) = st2 at hN5 hbm hft2
          have ce := hN5.ce
          have hNS := Lib.hid hN5
          have hbd := Lib.hid hbm
          clear hN5 hbm
          cases hq : st2.2.2
          · rw [hq] at ce
            have hq' := Lib.hid hq
            clear hq
            go_wp2_with fail
            go_roundw
            case rel => exact ⟨k + 1, m2, st2, by omega, by go_num, hNS, by omega, hbd, hft2, hq', hB5⟩
            case measure => simp [intOf]; omega
          · rw [hq] at ce
            have hRn : Hid (R = none) := by
              show _ = _
              rw [← hov.out]
              have er : 11 - r = 10 - r + 1 := by omega
              rw [er]
              exact over_stop (fold_split (k := k + 1) (b, false, false) (by rw [hft2.out]; exact hq)) _
            clear hq hov
            go_wp2_with fail
            go_ret2
            rw [hRn.out]
            exact ⟨rfl, hB5⟩
        · obtain rfl : k = l.length := by omega
          have hfo2 : Hid (roundS (l.map tiOf) b = st) := by
            show _ = _
            have := hfo.out
            rw [List.take_length] at this
            exact this
          obtain ⟨b', c', e'⟩ := st
          have he' : e' = false := hem.out
          subst he'
          have cc := hNS.out.cc
          have cb := hNS.out.cb
          dsimp only at cc
          have HS := Lib.hid (over_step hfo2.out (10 - r))
          have er : 10 - r + 1 = 11 - r := by omega
          cases c'
          · have hRs : Hid (R = some b') := by show _ = _; rw [← hov.out, ← er, HS.out]; rfl
            clear HS hov hfo hfo2 er
            go_wp2_with fail
            go_ret2
            rw [hRs.out]
            exact ⟨w.heap.size, m, ⟨rfl, hNS.out.own⟩, Nat.le_refl _, hB⟩
          · have hRs : Hid (overF (l.map tiOf) (11 - (r + 1)) b' = R) := by
              show _ = _
              rw [← hov.out, ← er, HS.out]
              have : 11 - (r + 1) = 10 - r := by omega
              rw [this]; rfl
            have hbd2 : Hid (BdN (32 * (r + 1)) (b', false, false)) := fun j s hs => (hbd.out.mono (show 32 * r + 2 * l.length ≤ 32 * (r + 1) by omega)) j s hs
            clear HS hov hfo hfo2 er hbd
            go_wp2_with fail
            go_roundw
            case rel => exact ⟨r + 1, m, b', true, by omega, by go_num, hNS, by omega, hbd2, hRs, hB⟩
            case measure => simp [intOf]; omega
    · obtain rfl : r = 11 := by omega
      have hRn : Hid (R = none) := by show _ = _; rw [← hov.out]; rfl
      clear hNS hbd hov
      go_wp2_with fail
      go_ret2
      rw [hRn.out]
      exact ⟨rfl, hB⟩
end Ey
end Go.Proofs.YtcfjakifeihbpaaGreat
