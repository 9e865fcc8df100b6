/- Eye: the closure that narrows. -/
import Derived.Test.YtcfjakifeihbpaaGreatEjo
namespace Go.Proofs.YtcfjakifeihbpaaGreat
namespace Ey
open Go.RowKit Go.Maps Nb

/-- The worlds differ in three blocks at most, and in new ones. -/
structure B3 (a b c : Nat) (w w' : World) : Prop where
  os : w'.os = w.os
  tape : w'.tape = w.tape
  output : w'.output = w.output
  size : w.heap.size ≤ w'.heap.size
  block : ∀ k, k < w.heap.size → k ≠ a → k ≠ b → k ≠ c → w'.heap[k]? = w.heap[k]?
theorem B3.refl (a b c : Nat) (w : World) : B3 a b c w w := ⟨rfl, rfl, rfl, Nat.le_refl _, fun _ _ _ _ _ => rfl⟩
theorem B3.trans {a b c : Nat} {u v w : World} (h : B3 a b c u v) (k : B3 a b c v w) : B3 a b c u w :=
  ⟨k.os.trans h.os, k.tape.trans h.tape, k.output.trans h.output, Nat.le_trans h.size k.size, fun i hi n1 n2 n3 => (k.block i (Nat.lt_of_lt_of_le hi h.size) n1 n2 n3).trans (h.block i hi n1 n2 n3)⟩
theorem B3.of {a b c : Nat} {w w' : World} (h : Below w.heap.size w w') : B3 a b c w w' := ⟨h.os, h.tape, h.output, h.size, fun k hk _ _ _ => h.block k hk⟩
theorem B3.by {a b c : Nat} {w w' : World} {row : Option Nat} (h : w.grownBy w' row) (hr : ∀ k, row = some k → k = a ∨ k = b ∨ k = c) : B3 a b c w w' :=
  ⟨h.os, h.tape, h.output, h.size, fun k hk n1 n2 n3 => h.block k hk (fun e => by rcases hr k e.symm with h | h | h <;> omega)⟩
theorem grownBy_set (X : World) (g o : Nat) (v : Value) : X.grownBy (X.setCell ⟨g, o, none⟩ v) (some g) :=
  ⟨rfl, rfl, rfl, by simp, fun k _ hn => Below.heap_setCell _ _ _ _ (by simpa using hn)⟩
theorem grown_below {X X' : World} (hb : Below X.heap.size X X') (row : Option Nat) : X.grownBy X' row := ⟨hb.os, hb.tape, hb.output, hb.size, fun i hi _ => hb.block i hi⟩
theorem B3.cell {a b c : Nat} {w w' : World} (h : B3 a b c w w') {k o : Nat} {v : Value} (hc : w.cell? ⟨k, o, none⟩ = some v) (n1 : k ≠ a) (n2 : k ≠ b) (n3 : k ≠ c) : w'.cell? ⟨k, o, none⟩ = some v :=
  (World.cell?_of_block (h.block k (World.block_lt_of_cell? _ _ hc) n1 n2 n3)).trans hc
theorem B3.below {a b c N : Nat} {u w w' : World} (hb : Below N u w) (h : B3 a b c w w') (hN : N ≤ w.heap.size) (h1 : N ≤ a) (h2 : N ≤ b) (h3 : N ≤ c) : Below N u w' := by
  exact hb.trans ⟨h.os, h.tape, h.output, h.size, fun k hk => h.block k (by omega) (by omega) (by omega) (by omega)⟩
/-- What stands in memory while bounds are narrowed. -/
structure NS (X : World) (gB gC gE mb n : Nat) (st : St) : Prop where
  cb : X.cell? ⟨gB, 0, none⟩ = some (.map (some mb))
  own : OwnB X mb n st.1
  cc : X.cell? ⟨gC, 0, none⟩ = some (.bool st.2.1)
  ce : X.cell? ⟨gE, 0, none⟩ = some (.bool st.2.2)
  sc : Slots gC 1 X
  se : Slots gE 1 X
structure NO (gB gC gE mb : Nat) : Prop where
  bc : gB ≠ gC
  be : gB ≠ gE
  bm : gB ≠ mb
  ce : gC ≠ gE
  cm : gC ≠ mb
  em : gE ≠ mb
section
variable {X X' : World} {gB gC gE mb n : Nat} {st : St}
theorem slots_by {B n : Nat} {X X' : World} {row : Option Nat} (h : Slots B n X) (hg : X.grownBy X' row) (hn : some B ≠ row) : Slots B n X' := fun o ho => by
  obtain ⟨v, hv, hf⟩ := h.get o ho
  have hb := hg.block B (World.block_lt_of_cell? _ _ hv) hn
  exact ⟨by rw [World.cell?_of_block (a := ⟨B, o, none⟩) hb, hv]; rfl, by rw [World.frozen?_of_block (a := ⟨B, o, none⟩) hb]; exact hf⟩
theorem NS.grown (k : NS X gB gC gE mb n st) (hb : Below X.heap.size X X') : NS X' gB gC gE mb n st :=
  ⟨cellB k.cb hb, k.own.kept (grown_below hb none) (by simp), cellB k.cc hb, cellB k.ce hb, slots_by k.sc (grown_below hb none) (by simp), slots_by k.se (grown_below hb none) (by simp)⟩
/-- A cell of a block that is none of these. -/
theorem NS.far (k : NS X gB gC gE mb n st) (g o : Nat) (v : Value) (h : gB ≠ g ∧ gC ≠ g ∧ gE ≠ g ∧ mb ≠ g) : NS (X.setCell ⟨g, o, none⟩ v) gB gC gE mb n st := by
  have hg := grownBy_set X g o v
  obtain ⟨h1, h2, h3, h4⟩ := h
  exact ⟨hg.cell k.cb (by simpa using h1), k.own.kept hg (by simpa using h4), hg.cell k.cc (by simpa using h2), hg.cell k.ce (by simpa using h3), slots_by k.sc hg (by simpa using h2), slots_by k.se hg (by simpa using h3)⟩
theorem NS.put (k : NS X gB gC gE mb n st) (no : NO gB gC gE mb) {b : B} {m : Nat} (ho : OwnB X' mb m b) (hg : X.grownBy X' (some mb)) : NS X' gB gC gE mb m (b, st.2.1, st.2.2) :=
  ⟨hg.cell k.cb (by simpa using no.bm), ho, hg.cell k.cc (by simpa using no.cm), hg.cell k.ce (by simpa using no.em), slots_by k.sc hg (by simpa using no.cm), slots_by k.se hg (by simpa using no.em)⟩
theorem NS.setC (k : NS X gB gC gE mb n st) (no : NO gB gC gE mb) (v : Bool) : NS (X.setCell ⟨gC, 0, none⟩ (.bool v)) gB gC gE mb n (st.1, v, st.2.2) := by
  have hg := grownBy_set X gC 0 (.bool v)
  exact ⟨hg.cell k.cb (by simpa using no.bc), k.own.kept hg (by simpa using no.cm.symm), World.cell?_setCell_same _ _ _ k.cc, hg.cell k.ce (by simpa using no.ce.symm), k.sc.set _ _, k.se.set _ _⟩
theorem NS.setE (k : NS X gB gC gE mb n st) (no : NO gB gC gE mb) (v : Bool) : NS (X.setCell ⟨gE, 0, none⟩ (.bool v)) gB gC gE mb n (st.1, st.2.1, v) := by
  have hg := grownBy_set X gE 0 (.bool v)
  exact ⟨hg.cell k.cb (by simpa using no.be), k.own.kept hg (by simpa using no.em.symm), hg.cell k.cc (by simpa using no.ce), World.cell?_setCell_same _ _ _ k.ce, k.sc.set _ _, k.se.set _ _⟩
end
def NarR (X : World) (gB gC gE mb n : Nat) (st : St) (e : Ending) (w' : World) : Prop :=
  ∃ m, (e = .returned (.tuple #[]) ∧ NS w' gB gC gE mb m st) ∧ m ≤ n + 1 ∧ B3 mb gC gE X w'
theorem two_cells (w : World) (a b : Int) (t : TypeId) : (w.alloc (.cells #[.int .i64 a, .int .i64 b] t)).cell? ⟨w.heap.size, 0, none⟩ = some (.int .i64 a) ∧ (w.alloc (.cells #[.int .i64 a, .int .i64 b] t)).cell? ⟨w.heap.size, 1, none⟩ = some (.int .i64 b) := ⟨by simp [go_sem], by simp [go_sem]⟩
set_option maxRecDepth 100000 in
set_option maxHeartbeats 4000000 in
theorem narrow_none (gB gC gE mb n f t : Nat) (lo hi : Int) (st : St) (X : World) (k : NS X gB gC gE mb n st) (hf : f < 11) (hn : st.1 f = none) :
    Calls Tryz.prog 89 #[.int .i64 f, .int .i64 t, .agg #[.int .i64 lo, .int .i64 hi], .pointer (some ⟨gB, 0, none⟩), .pointer (some ⟨gC, 0, none⟩), .pointer (some ⟨gE, 0, none⟩)] X (NarR X gB gC gE mb n (nar st f t lo hi)) := by
  rw [nar_none hn]
  have hZ := newB X (.cells #[.int .i64 lo, .int .i64 hi] 24)
  have k1 := k.grown hZ
  have cb := k1.cb
  have HO := Lib.hid k1.own
  have hs : (st.1 f).isSome = false := by rw [hn]; rfl
  have HK := Lib.hid k
  clear k k1 hn
  go_enter Tryz.func89, Tryz.ntmps89
  go_wp2_with (at_lookup; refine wp_lookB rfl (.tmp 15) (.tmp 16) rfl rfl HO.out f hf rfl ?_)
  intro c d _
  try rw [hs]
  have hD : Below X.heap.size X ((X.alloc (.cells #[.int .i64 lo, .int .i64 hi] 24)).alloc (.cells #[.int .i64 c, .int .i64 d] 24)) := BA (BA (Below.refl _ _) _) _
  clear cb HO hs hZ
  go_wp2
  go_end0
  exact ⟨n, ⟨rfl, HK.out.grown hD⟩, by omega, B3.of hD⟩
theorem maxJ_eq (a c : Int) : maxJ a c = max a c := by unfold maxJ; split <;> omega
theorem minJ_eq (b d : Int) : minJ b d = min b d := by unfold minJ; split <;> omega
/-- What the walk has in hand behind the first look-up and the sum. -/
def BdS (st : St) : Prop := ∀ k s, st.1 k = some s → (-500000000 ≤ s.1 ∧ s.1 ≤ 500000000) ∧ -500000000 ≤ s.2 ∧ s.2 ≤ 500000000
set_option maxRecDepth 100000 in
set_option maxHeartbeats 8000000 in
theorem narrow_new (gB gC gE mb n f t : Nat) (lo hi : Int) (st : St) (X : World) (k : NS X gB gC gE mb n st) (no : NO gB gC gE mb) (hf : f < 11) (ht : t < 11) (hnn : n < 1000) (hbd : BdS st) (hlh : (-1000000 ≤ lo ∧ lo ≤ 1000000) ∧ -1000000 ≤ hi ∧ hi ≤ 1000000) (s : Int × Int) (hs : st.1 f = some s) (hn : st.1 t = none) :
    Calls Tryz.prog 89 #[.int .i64 f, .int .i64 t, .agg #[.int .i64 lo, .int .i64 hi], .pointer (some ⟨gB, 0, none⟩), .pointer (some ⟨gC, 0, none⟩), .pointer (some ⟨gE, 0, none⟩)] X (NarR X gB gC gE mb n (nar st f t lo hi)) := by
  rw [nar_new hs hn]
  obtain ⟨b0, ch, em⟩ := st
  dsimp only at hs hn ⊢
  obtain ⟨⟨bs0, bs1⟩, bs2, bs3⟩ := hbd f s hs
  obtain ⟨s1, s2⟩ := s
  dsimp only at bs0 bs1 bs2 bs3
  obtain ⟨⟨l0, l1⟩, l2, l3⟩ := hlh
  have hD : Below X.heap.size X ((X.alloc (.cells #[.int .i64 lo, .int .i64 hi] 24)).alloc (.cells #[.int .i64 s1, .int .i64 s2] 24)) := BA (BA (Below.refl _ _) _) _
  have hZ := newB X (.cells #[.int .i64 lo, .int .i64 hi] 24)
  have k1 := k.grown hZ
  have cb := k1.cb
  have HO := Lib.hid (show OwnB _ mb n b0 from k1.own)
  have hso : (b0 f).isSome = true := by rw [hs]; rfl
  have hno : (b0 t).isSome = false := by rw [hn]; rfl
  have HK := Lib.hid (k.grown hD)
  have HS := Lib.hid hs
  have HBD := Lib.hid hbd
  clear k k1 hn hs hbd
  go_enter Tryz.func89, Tryz.ntmps89
  go_wp2_with (at_lookup; refine wp_lookB rfl (.tmp 15) (.tmp 16) rfl rfl HO.out f hf rfl ?_)
  intro c d hcd
  obtain ⟨rfl, rfl⟩ : s1 = c ∧ s2 = d := by have := hcd.out _ _ HS.out; simpa using this
  clear hcd cb HO hZ HS
  go_wp2_with fail
  refine (add_any s1 s2 lo hi _ ⟨⟨by omega, by omega⟩, ⟨by omega, by omega⟩, ⟨by omega, by omega⟩, by omega, by omega⟩).mono ?_
  rintro e w1 ⟨rfl, hb1⟩
  have hD1 := BT hD hb1
  have hZ := newB w1 (.cells #[.int .i64 (s1 + lo), .int .i64 (s2 + hi)] 24)
  have HK1 := Lib.hid (HK.out.grown hb1)
  have KT := Lib.hid ((HK.out.grown hb1).grown hZ)
  have hD2 := BT hD1 hZ
  have T0 := two_cells w1 (s1 + lo) (s2 + hi) 24
  obtain ⟨u1, hu1⟩ : ∃ u1 : Int, s1 + lo = u1 := ⟨_, rfl⟩
  obtain ⟨u2, hu2⟩ : ∃ u2 : Int, s2 + hi = u2 := ⟨_, rfl⟩
  rw [hu1, hu2] at T0 KT hD2
  have cb := KT.out.cb
  clear hD hD1 hb1 HK hZ
  go_wp2_with (at_lookup; refine wp_lookB rfl (.tmp 26) (.tmp 27) rfl rfl (show OwnB _ mb n b0 from KT.out.own) t ht rfl ?_)
  intro c d _
  try rw [hno]
  have hZ := newB (w1.alloc (.cells #[.int .i64 u1, .int .i64 u2] 24)) (.cells #[.int .i64 c, .int .i64 d] 24)
  have KV := Lib.hid (KT.out.grown hZ)
  have hD3 := BT hD2 hZ
  have t0 := cellB T0.1 hZ
  have t1 := cellB T0.2 hZ
  have HLT : Hid (mb < w1.heap.size) := HK1.out.own.lt
  have HLC : Hid (gC < w1.heap.size) := World.block_lt_of_cell? _ _ HK1.out.cc
  have HLE : Hid (gE < w1.heap.size) := World.block_lt_of_cell? _ _ HK1.out.ce
  have cb := KV.out.cb
  have l1 := World.block_lt_of_cell? _ _ KV.out.cc
  obtain ⟨x1, z1, f1⟩ := KV.out.sc.get 0 (by omega)
  obtain ⟨x2, z2, f2⟩ := KV.out.se.get 0 (by omega)
  clear KT T0 hD2 hZ
  go_wp2_with (at_mapUpdate; refine wp_putB rfl (.tmp 43) (.tmp 44) (.tmp 45) rfl rfl (show OwnB _ mb n b0 from KV.out.own) (by omega) t ht rfl u1 u2 (by rfl) ?_)
  intro X' hown hgr
  have hN := NS.put KV.out no hown hgr
  have n11 : w1.heap.size ≠ mb := fun e => by have := KV.out.own.lt; have := HLT.out; omega
  have c0 := hgr.cell t0 (by simpa using n11)
  have c1 := hgr.cell t1 (by simpa using n11)
  have hB3 : B3 mb gC gE X X' := (B3.of hD3).trans (B3.by hgr (fun k e => .inl (by injection e with e; exact e.symm)))
  obtain ⟨x3, z3, f3⟩ := hN.sc.get 0 (by omega)
  obtain ⟨x4, z4, f4⟩ := hN.se.get 0 (by omega)
  have ce := hN.ce
  have cc := hN.cc
  have hN2 := Lib.hid (hN.setC no true)
  have l1 := HLT.out
  have l2 := HLC.out
  have l3 := HLE.out
  have g1 : ¬ w1.heap.size = gC := by omega
  have g2 : ¬ w1.heap.size = gE := by omega
  have hB4 : B3 mb gC gE X (X'.setCell ⟨gC, 0, none⟩ (.bool true)) := hB3.trans (B3.by (grownBy_set X' gC 0 (.bool true)) (fun k e => .inr (.inl (by injection e with e; exact e.symm))))
  have HB5 : Hid (∀ v, B3 mb gC gE X ((X'.setCell ⟨gC, 0, none⟩ (.bool true)).setCell ⟨gE, 0, none⟩ (.bool v))) := fun v => hB4.trans (B3.by (grownBy_set _ gE 0 (.bool v)) (fun k e => .inr (.inr (by injection e with e; exact e.symm))))
  have hne := no.ce
  clear t0 t1 cb KV hown hgr hN hB3 hB4 z3 z4 hD3 n11
  dsimp only at ce cc
  cases em
  · go_wp2
    go_end0
    exact ⟨n + 1, ⟨rfl, by have := hN2.out.setE no (decide (u2 < u1)); simpa using this⟩, by omega, HB5.out _⟩
  · go_wp2
    go_end0
    exact ⟨n + 1, ⟨rfl, by have := hN2.out.setE no true; simpa using this⟩, by omega, HB5.out _⟩
set_option maxRecDepth 100000 in
set_option maxHeartbeats 8000000 in
theorem narrow_old (gB gC gE mb n f t : Nat) (lo hi : Int) (st : St) (X : World) (k : NS X gB gC gE mb n st) (no : NO gB gC gE mb) (hf : f < 11) (ht : t < 11) (hnn : n < 1000) (hbd : BdS st) (hlh : (-1000000 ≤ lo ∧ lo ≤ 1000000) ∧ -1000000 ≤ hi ∧ hi ≤ 1000000) (s : Int × Int) (hs : st.1 f = some s) (o : Int × Int) (hn : st.1 t = some o) :
    Calls Tryz.prog 89 #[.int .i64 f, .int .i64 t, .agg #[.int .i64 lo, .int .i64 hi], .pointer (some ⟨gB, 0, none⟩), .pointer (some ⟨gC, 0, none⟩), .pointer (some ⟨gE, 0, none⟩)] X (NarR X gB gC gE mb n (nar st f t lo hi)) := by
  generalize hR : nar st f t lo hi = R
  rw [nar_old hs hn] at hR
  obtain ⟨⟨bo0, bo1⟩, bo2, bo3⟩ := hbd t o hn
  obtain ⟨b0, ch, em⟩ := st
  dsimp only at hs hn
  obtain ⟨⟨bs0, bs1⟩, bs2, bs3⟩ := hbd f s hs
  obtain ⟨s1, s2⟩ := s
  obtain ⟨o1, o2⟩ := o
  dsimp only at bs0 bs1 bs2 bs3 bo0 bo1 bo2 bo3 hR
  rw [← maxJ_eq, ← minJ_eq] at hR
  have HR := Lib.hid hR
  clear hR
  obtain ⟨⟨l0, l1⟩, l2, l3⟩ := hlh
  have hD : Below X.heap.size X ((X.alloc (.cells #[.int .i64 lo, .int .i64 hi] 24)).alloc (.cells #[.int .i64 s1, .int .i64 s2] 24)) := BA (BA (Below.refl _ _) _) _
  have hZ := newB X (.cells #[.int .i64 lo, .int .i64 hi] 24)
  have k1 := k.grown hZ
  have cb := k1.cb
  have HO := Lib.hid (show OwnB _ mb n b0 from k1.own)
  have hso : (b0 f).isSome = true := by rw [hs]; rfl
  have hno : (b0 t).isSome = true := by rw [hn]; rfl
  have HK := Lib.hid (k.grown hD)
  have HS := Lib.hid hs
  have HT := Lib.hid hn
  have HBD := Lib.hid hbd
  clear k k1 hn hs hbd
  go_enter Tryz.func89, Tryz.ntmps89
  go_wp2_with (at_lookup; refine wp_lookB rfl (.tmp 15) (.tmp 16) rfl rfl HO.out f hf rfl ?_)
  intro c d hcd
  obtain ⟨rfl, rfl⟩ : s1 = c ∧ s2 = d := by have := hcd.out _ _ HS.out; simpa using this
  clear hcd cb HO hZ HS
  go_wp2_with fail
  refine (add_any s1 s2 lo hi _ ⟨⟨by omega, by omega⟩, ⟨by omega, by omega⟩, ⟨by omega, by omega⟩, by omega, by omega⟩).mono ?_
  rintro e w1 ⟨rfl, hb1⟩
  have hD1 := BT hD hb1
  have hD1' := Lib.hid hD1
  have hZ := newB w1 (.cells #[.int .i64 (s1 + lo), .int .i64 (s2 + hi)] 24)
  have HK1 := Lib.hid (HK.out.grown hb1)
  have KT := Lib.hid ((HK.out.grown hb1).grown hZ)
  have hD2 := BT hD1 hZ
  have T0 := two_cells w1 (s1 + lo) (s2 + hi) 24
  obtain ⟨u1, hu1⟩ : ∃ u1 : Int, s1 + lo = u1 := ⟨_, rfl⟩
  obtain ⟨u2, hu2⟩ : ∃ u2 : Int, s2 + hi = u2 := ⟨_, rfl⟩
  rw [hu1, hu2] at T0 KT hD2
  have cb := KT.out.cb
  clear hD hD1 hb1 HK hZ
  go_wp2_with (at_lookup; refine wp_lookB rfl (.tmp 26) (.tmp 27) rfl rfl (show OwnB _ mb n b0 from KT.out.own) t ht rfl ?_)
  intro c d hcd
  try rw [hno]
  obtain ⟨rfl, rfl⟩ : o1 = c ∧ o2 = d := by have := hcd.out _ _ HT.out; simpa using this
  clear hcd HT
  try rw [hu1, hu2]
  obtain ⟨m1, hm1⟩ : ∃ m1 : Int, maxJ u1 o1 = m1 := ⟨_, rfl⟩
  obtain ⟨m2, hm2⟩ : ∃ m2 : Int, minJ u2 o2 = m2 := ⟨_, rfl⟩
  have hZ := newB (w1.alloc (.cells #[.int .i64 u1, .int .i64 u2] 24)) (.cells #[.int .i64 o1, .int .i64 o2] 24)
  have hZ2 := newB ((w1.alloc (.cells #[.int .i64 u1, .int .i64 u2] 24)).alloc (.cells #[.int .i64 o1, .int .i64 o2] 24)) (.cells #[.int .i64 o1, .int .i64 o2] 24)
  have hZZ := BT hZ hZ2
  have KV := Lib.hid (KT.out.grown hZZ)
  have hD3 := BT hD2 hZZ
  have t0 := cellB T0.1 hZZ
  have t1 := cellB T0.2 hZZ
  have d0 := cellB (two_cells (w1.alloc (.cells #[.int .i64 u1, .int .i64 u2] 24)) o1 o2 24).1 hZ2
  have d1 := cellB (two_cells (w1.alloc (.cells #[.int .i64 u1, .int .i64 u2] 24)) o1 o2 24).2 hZ2
  rw [show (w1.alloc (.cells #[.int .i64 u1, .int .i64 u2] 24)).heap.size = w1.heap.size + 1 by simp] at d0 d1
  have e0 := (two_cells ((w1.alloc (.cells #[.int .i64 u1, .int .i64 u2] 24)).alloc (.cells #[.int .i64 o1, .int .i64 o2] 24)) o1 o2 24).1
  have e1 := (two_cells ((w1.alloc (.cells #[.int .i64 u1, .int .i64 u2] 24)).alloc (.cells #[.int .i64 o1, .int .i64 o2] 24)) o1 o2 24).2
  have eV : ((w1.alloc (.cells #[.int .i64 u1, .int .i64 u2] 24)).alloc (.cells #[.int .i64 o1, .int .i64 o2] 24)).heap.size = w1.heap.size + 1 + 1 := by simp
  rw [eV] at e0 e1
  have hj := join_any u1 u2 o1 o2 (w1.heap.size + 1 + 1) (((w1.alloc (.cells #[.int .i64 u1, .int .i64 u2] 24)).alloc (.cells #[.int .i64 o1, .int .i64 o2] 24)).alloc (.cells #[.int .i64 o1, .int .i64 o2] 24)) e0 e1
  rw [hm1, hm2] at hj
  have f11 : Slots w1.heap.size 2 (((w1.alloc (.cells #[.int .i64 u1, .int .i64 u2] 24)).alloc (.cells #[.int .i64 o1, .int .i64 o2] 24)).alloc (.cells #[.int .i64 o1, .int .i64 o2] 24)) := (slots2_new w1 u1 u2 24).below hZZ (World.block_lt_of_cell? _ _ T0.1)
  have KH := Lib.hid HK1.out
  clear KT T0 hD2 hZ hZ2 hZZ eV e0 e1
  go_wp2_with fail
  refine hj.mono ?_
  rintro e w2 ⟨rfl, hb2⟩
  have l11 : w1.heap.size < (((w1.alloc (.cells #[.int .i64 u1, .int .i64 u2] 24)).alloc (.cells #[.int .i64 o1, .int .i64 o2] 24)).alloc (.cells #[.int .i64 o1, .int .i64 o2] 24)).heap.size := World.block_lt_of_cell? _ _ t0
  have t0 := cellB t0 hb2
  have t1 := cellB t1 hb2
  have d0 := cellB d0 hb2
  have d1 := cellB d1 hb2
  have f11 := f11.below hb2 l11
  have KW := KV.out.grown hb2
  have hD4 := BT hD3 hb2
  have HLT : Hid (mb < w1.heap.size) := KH.out.own.lt
  have HLB : Hid (gB < w1.heap.size) := World.block_lt_of_cell? _ _ KH.out.cb
  have HLC : Hid (gC < w1.heap.size) := World.block_lt_of_cell? _ _ KH.out.cc
  have HLE : Hid (gE < w1.heap.size) := World.block_lt_of_cell? _ _ KH.out.ce
  have l1 := HLT.out
  have l2 := HLC.out
  have l3 := HLE.out
  have l4 := HLB.out
  have hws : X.heap.size ≤ w1.heap.size := hD1'.out.size
  have KY := Lib.hid ((KW.far w1.heap.size 0 (.int .i64 m1) ⟨by omega, by omega, by omega, by omega⟩).far w1.heap.size 1 (.int .i64 m2) ⟨by omega, by omega, by omega, by omega⟩)
  have hDY : Below X.heap.size X ((w2.setCell ⟨w1.heap.size, 0, none⟩ (.int .i64 m1)).setCell ⟨w1.heap.size, 1, none⟩ (.int .i64 m2)) := BC (BC hD4 w1.heap.size 0 hws _) w1.heap.size 1 hws _
  obtain ⟨u3, p3, f3⟩ := f11.get 0 (by omega)
  obtain ⟨u4, p4, f4⟩ := f11.get 1 (by omega)
  have HDY := Lib.hid hDY
  clear hj KV KW hD3 hD4 hb2 f11 hDY p3 p4
  have y0 : ((w2.setCell ⟨w1.heap.size, 0, none⟩ (.int .i64 m1)).setCell ⟨w1.heap.size, 1, none⟩ (.int .i64 m2)).cell? ⟨w1.heap.size, 0, none⟩ = some (.int .i64 m1) := by
    rw [World.cell?_setCell_other _ _ _ _ (by intro he; injection he; omega)]; exact World.cell?_setCell_same _ _ _ t0
  have y1 : ((w2.setCell ⟨w1.heap.size, 0, none⟩ (.int .i64 m1)).setCell ⟨w1.heap.size, 1, none⟩ (.int .i64 m2)).cell? ⟨w1.heap.size, 1, none⟩ = some (.int .i64 m2) := by
    refine World.cell?_setCell_same _ _ _ (u := .int .i64 u2) ?_
    rw [World.cell?_setCell_other _ _ _ _ (by intro he; injection he; omega)]; exact t1
  have e0 : ((w2.setCell ⟨w1.heap.size, 0, none⟩ (.int .i64 m1)).setCell ⟨w1.heap.size, 1, none⟩ (.int .i64 m2)).cell? ⟨w1.heap.size + 1, 0, none⟩ = some (.int .i64 o1) := by
    rw [World.cell?_setCell_other _ _ _ _ (by intro he; injection he; omega), World.cell?_setCell_other _ _ _ _ (by intro he; injection he; omega)]; exact d0
  have e1 : ((w2.setCell ⟨w1.heap.size, 0, none⟩ (.int .i64 m1)).setCell ⟨w1.heap.size, 1, none⟩ (.int .i64 m2)).cell? ⟨w1.heap.size + 1, 1, none⟩ = some (.int .i64 o2) := by
    rw [World.cell?_setCell_other _ _ _ _ (by intro he; injection he; omega), World.cell?_setCell_other _ _ _ _ (by intro he; injection he; omega)]; exact d1
  have cb := KY.out.cb
  have HR2 : Hid ((if (m1, m2) = (o1, o2) then ((b0, ch, em) : St) else (upd b0 t (m1, m2), true, em || decide (m2 < m1))) = R) := by
    show _ = _
    have := HR.out
    rw [hu1, hu2, hm1, hm2] at this
    exact this
  clear HR
  by_cases hq : m1 = o1 ∧ m2 = o2
  · have hRR : Hid (R = (b0, ch, em)) := by show _ = _; rw [← HR2.out, if_pos (by rw [hq.1, hq.2])]
    obtain ⟨q1, q2⟩ := hq
    rw [q1, q2] at y0 y1 KY HDY cb e0 e1 ⊢
    clear q1 q2
    clear HR2 hm1 hm2
    go_wp2
    go_end0
    exact ⟨n, ⟨rfl, by rw [hRR.out]; exact KY.out⟩, by omega, B3.of HDY.out⟩
  · have hRR : Hid (R = (upd b0 t (m1, m2), true, em || decide (m2 < m1))) := by show _ = _; rw [← HR2.out, if_neg (fun e => hq (by simpa using e))]
    clear HR2 hm1 hm2
    by_cases q1 : m1 = o1
    · have q2 : ¬ m2 = o2 := fun e => hq ⟨q1, e⟩
      clear hq
      subst q1
      go_wp2_with (at_mapUpdate; refine wp_putB rfl (.tmp 43) (.tmp 44) (.tmp 45) rfl rfl (show OwnB _ mb n b0 from KY.out.own) (by omega) t ht rfl m1 m2 (by rfl) ?_)
      intro X' hown hgr
      have hN := NS.put KY.out no hown hgr
      have n11 : w1.heap.size ≠ mb := by omega
      have c0 := hgr.cell y0 (by simpa using n11)
      have c1 := hgr.cell y1 (by simpa using n11)
      have hB3 : B3 mb gC gE X X' := (B3.of HDY.out).trans (B3.by hgr (fun k e => .inl (by injection e with e; exact e.symm)))
      obtain ⟨x3, z3, f5⟩ := hN.sc.get 0 (by omega)
      obtain ⟨x4, z4, f6⟩ := hN.se.get 0 (by omega)
      have ce := hN.ce
      have cc := hN.cc
      have hN2 := Lib.hid (hN.setC no true)
      have g1 : ¬ w1.heap.size = gC := by omega
      have g2 : ¬ w1.heap.size = gE := by omega
      have hB4 : B3 mb gC gE X (X'.setCell ⟨gC, 0, none⟩ (.bool true)) := hB3.trans (B3.by (grownBy_set X' gC 0 (.bool true)) (fun k e => .inr (.inl (by injection e with e; exact e.symm))))
      have HB5 : Hid (∀ v, B3 mb gC gE X ((X'.setCell ⟨gC, 0, none⟩ (.bool true)).setCell ⟨gE, 0, none⟩ (.bool v))) := fun v => hB4.trans (B3.by (grownBy_set _ gE 0 (.bool v)) (fun k e => .inr (.inr (by injection e with e; exact e.symm))))
      have hne := no.ce
      clear y0 y1 e0 e1 cb KY hown hgr hN hB3 hB4 z3 z4 n11 f3 f4
      dsimp only at ce cc
      cases em
      · go_wp2
        go_end0
        exact ⟨n + 1, ⟨rfl, by have := hN2.out.setE no (decide (m2 < m1)); rw [hRR.out]; simpa using this⟩, by omega, HB5.out _⟩
      · go_wp2
        go_end0
        exact ⟨n + 1, ⟨rfl, by have := hN2.out.setE no true; rw [hRR.out]; simpa using this⟩, by omega, HB5.out _⟩
    · clear hq
      go_wp2_with (at_mapUpdate; refine wp_putB rfl (.tmp 43) (.tmp 44) (.tmp 45) rfl rfl (show OwnB _ mb n b0 from KY.out.own) (by omega) t ht rfl m1 m2 (by rfl) ?_)
      intro X' hown hgr
      have hN := NS.put KY.out no hown hgr
      have n11 : w1.heap.size ≠ mb := by omega
      have c0 := hgr.cell y0 (by simpa using n11)
      have c1 := hgr.cell y1 (by simpa using n11)
      have hB3 : B3 mb gC gE X X' := (B3.of HDY.out).trans (B3.by hgr (fun k e => .inl (by injection e with e; exact e.symm)))
      obtain ⟨x3, z3, f5⟩ := hN.sc.get 0 (by omega)
      obtain ⟨x4, z4, f6⟩ := hN.se.get 0 (by omega)
      have ce := hN.ce
      have cc := hN.cc
      have hN2 := Lib.hid (hN.setC no true)
      have g1 : ¬ w1.heap.size = gC := by omega
      have g2 : ¬ w1.heap.size = gE := by omega
      have hB4 : B3 mb gC gE X (X'.setCell ⟨gC, 0, none⟩ (.bool true)) := hB3.trans (B3.by (grownBy_set X' gC 0 (.bool true)) (fun k e => .inr (.inl (by injection e with e; exact e.symm))))
      have HB5 : Hid (∀ v, B3 mb gC gE X ((X'.setCell ⟨gC, 0, none⟩ (.bool true)).setCell ⟨gE, 0, none⟩ (.bool v))) := fun v => hB4.trans (B3.by (grownBy_set _ gE 0 (.bool v)) (fun k e => .inr (.inr (by injection e with e; exact e.symm))))
      have hne := no.ce
      clear y0 y1 e0 e1 cb KY hown hgr hN hB3 hB4 z3 z4 n11 f3 f4
      dsimp only at ce cc
      cases em
      · go_wp2
        go_end0
        exact ⟨n + 1, ⟨rfl, by have := hN2.out.setE no (decide (m2 < m1)); rw [hRR.out]; simpa using this⟩, by omega, HB5.out _⟩
      · go_wp2
        go_end0
        exact ⟨n + 1, ⟨rfl, by have := hN2.out.setE no true; rw [hRR.out]; simpa using this⟩, by omega, HB5.out _⟩
end Ey
end Go.Proofs.YtcfjakifeihbpaaGreat
