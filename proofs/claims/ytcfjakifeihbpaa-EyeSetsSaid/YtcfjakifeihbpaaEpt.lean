/- Eye: the laws' own: a watch with the looks of a set alone. -/
import Derived.Test.YtcfjakifeihbpaaEbt
import Derived.Test.YtcfjakifeihbpaaEfa
import Derived.OwnWalk
namespace Go.Proofs.Ytcfjakifeihbpaa
namespace Ey
open Go.RowKit

/-- One block alone has changed. -/
structure BX (B : Nat) (w w' : World) : Prop where
  os : w'.os = w.os
  tape : w'.tape = w.tape
  output : w'.output = w.output
  size : w.heap.size ≤ w'.heap.size
  block : ∀ k, k < w.heap.size → k ≠ B → w'.heap[k]? = w.heap[k]?
theorem BX.set (B o : Nat) (w : World) (v : Value) : BX B w (w.setCell ⟨B, o, none⟩ v) := ⟨rfl, rfl, rfl, by simp, fun k _ hn => Below.heap_setCell _ _ _ _ hn⟩
theorem BX.trans {B : Nat} {u v w : World} (h : BX B u v) (k : BX B v w) : BX B u w :=
  ⟨k.os.trans h.os, k.tape.trans h.tape, k.output.trans h.output, Nat.le_trans h.size k.size, fun i hi hn => (k.block i (Nat.lt_of_lt_of_le hi h.size) hn).trans (h.block i hi hn)⟩
theorem BX.cell {B : Nat} {w w' : World} (h : BX B w w') (b o : Nat) (h2 : b < w.heap.size) (hb : b ≠ B) : w'.cell? ⟨b, o, none⟩ = w.cell? ⟨b, o, none⟩ := World.cell?_of_block (a := ⟨b, o, none⟩) (h.block b h2 hb)
theorem BX.below {B N : Nat} {u w w' : World} (hb : Below N u w) (h : BX B w w') (hB : N ≤ B) (hs : N ≤ w.heap.size) : Below N u w' := hb.trans ⟨h.os, h.tape, h.output, h.size, fun k hk => h.block k (by omega) (by omega)⟩
def partTo (ss : List LkV) (set : Int) : Nat → List LkV
  | 0 => []
  | k + 1 => if setI set k = true then partTo ss set k ++ [ss.getD k (0, 0, 0)] else partTo ss set k
def partS (ss : List LkV) (set : Int) : List LkV := partTo ss set ss.length
theorem part_len (ss : List LkV) (set : Int) : ∀ k, (partTo ss set k).length ≤ k
  | 0 => Nat.le_refl _
  | k + 1 => by
    have := part_len ss set k
    rw [partTo]; split
    · rw [List.length_append]; simp; omega
    · omega
theorem partTo_mem {ss : List LkV} {set : Int} {s : LkV} : ∀ {k}, s ∈ partTo ss set k ↔ ∃ j, j < k ∧ setI set j = true ∧ s = ss.getD j (0, 0, 0)
  | 0 => by simp [partTo]
  | k + 1 => by
    rw [partTo]
    split
    · rename_i hb
      rw [List.mem_append, partTo_mem]
      constructor
      · rintro (⟨j, a, b, c⟩ | h)
        · exact ⟨j, by omega, b, c⟩
        · exact ⟨k, by omega, hb, by simpa using h⟩
      · rintro ⟨j, a, b, c⟩
        by_cases e : j = k
        · subst e; exact .inr (by simp [c])
        · exact .inl ⟨j, by omega, b, c⟩
    · rename_i hb
      rw [partTo_mem]
      constructor
      · rintro ⟨j, a, b, c⟩; exact ⟨j, by omega, b, c⟩
      · rintro ⟨j, a, b, c⟩
        by_cases e : j = k
        · subst e; exact absurd b hb
        · exact ⟨j, by omega, b, c⟩
theorem part_mem {ss : List LkV} {set : Int} {s : LkV} : s ∈ partS ss set ↔ ∃ j, j < ss.length ∧ setI set j = true ∧ s = ss.getD j (0, 0, 0) := partTo_mem
def partH (h : Wd) (la : Option Addr) (n cap : Nat) : Wd := ⟨h.a, h.n, h.cap, h.eLo, h.eHi, h.images, h.eyes, h.hLo, h.hHi, la, n, cap⟩
theorem slots_grownBy {B n : Nat} {X X' : World} {row : Option Nat} (h : Slots B n X) (hg : X.grownBy X' row) (hn : some B ≠ row) : Slots B n X' := fun o ho => by
  have hb := hg.block B (by
    have := (h o ho).1
    cases hc : X.cell? ⟨B, o, none⟩ with
    | none => rw [hc] at this; cases this
    | some v => exact World.block_lt_of_cell? _ _ hc) hn
  rw [World.cell?_of_block (a := ⟨B, o, none⟩) hb, World.frozen?_of_block (a := ⟨B, o, none⟩) hb]; exact h o ho
/-- What lies there while looks are put together: block B + 1 is the watch that is made. -/
structure PK (w X : World) (B : Nat) (h : Wd) (sv : Value) (L : List LkV) : Prop where
  res : Slots (B + 1) 8 X
  f0 : X.cell? ⟨B + 1 + 1, 0, none⟩ = some (.slice h.a h.n h.cap)
  f1 : X.cell? ⟨B + 1 + 1, 1, none⟩ = some (.int .i64 h.eLo)
  f2 : X.cell? ⟨B + 1 + 1, 2, none⟩ = some (.int .i64 h.eHi)
  f3 : X.cell? ⟨B + 1 + 1, 3, none⟩ = some (.int .i64 h.images)
  f4 : X.cell? ⟨B + 1 + 1, 4, none⟩ = some (.int .i64 h.eyes)
  f5 : X.cell? ⟨B + 1 + 1, 5, none⟩ = some (.int .i64 h.hLo)
  f6 : X.cell? ⟨B + 1 + 1, 6, none⟩ = some (.int .i64 h.hHi)
  f7 : X.cell? ⟨B + 1 + 1, 7, none⟩ = some sv
  z7 : X.frozen? ⟨B + 1 + 1, 7, none⟩ = false
  row : X.ownsRow (B + 3) 47 3 sv L.length (L.flatMap lookV)
  below : Below w.heap.size w X
  base : w.heap.size ≤ B
theorem PK.lt {w X : World} {B : Nat} {h : Wd} {sv : Value} {L : List LkV} (k : PK w X B h sv L) : B + 1 + 1 < X.heap.size := World.block_lt_of_cell? _ _ k.f0
theorem PK.grown {w X X' : World} {B : Nat} {h : Wd} {sv : Value} {L : List LkV} (k : PK w X B h sv L) (hb : Below X.heap.size X X') : PK w X' B h sv L := by
  have hl := k.lt
  exact ⟨k.res.below hb (by omega), cellB k.f0 hb, cellB k.f1 hb, cellB k.f2 hb, cellB k.f3 hb, cellB k.f4 hb, cellB k.f5 hb, cellB k.f6 hb, cellB k.f7 hb, (hb.frozen (p := ⟨B + 1 + 1, 7, none⟩) hl).trans k.z7,
    k.row.kept (row := none) ⟨hb.os, hb.tape, hb.output, hb.size, fun i hi _ => hb.block i hi⟩ (by cases h : sv.ownBlock <;> simp), BT k.below hb, k.base⟩
theorem PK.put {w X X' : World} {B : Nat} {h : Wd} {sv v' : Value} {L : List LkV} {s : LkV} (k : PK w X B h sv L) (hg : X.grownBy X' sv.ownBlock) (hown : X'.ownsRow (B + 3) 47 3 v' (L.length + 1) (L.flatMap lookV ++ lookV s)) :
    PK w (X'.setCell ⟨B + 1 + 1, 7, none⟩ v') B h v' (L ++ [s]) := by
  have hl := k.lt
  have hb : ∀ b, b < B + 3 → some b ≠ sv.ownBlock := fun b hb e => by have := (k.row.lt b e.symm).1; omega
  have c : ∀ o v, X.cell? ⟨B + 1 + 1, o, none⟩ = some v → o ≠ 7 → (X'.setCell ⟨B + 1 + 1, 7, none⟩ v').cell? ⟨B + 1 + 1, o, none⟩ = some v := fun o v hv ho => by
    rw [World.cell?_setCell_other _ _ _ _ (by intro he; injection he; omega)]; exact hg.cell hv (hb _ (by show B + 1 + 1 < _; omega))
  refine ⟨(slots_grownBy k.res hg (hb _ (by omega))).set _ _, c _ _ k.f0 (by omega), c _ _ k.f1 (by omega), c _ _ k.f2 (by omega), c _ _ k.f3 (by omega), c _ _ k.f4 (by omega), c _ _ k.f5 (by omega), c _ _ k.f6 (by omega), ?_, ?_, ?_, ?_, k.base⟩
  · exact World.cell?_setCell_same _ _ _ (hg.cell k.f7 (hb _ (by show B + 1 + 1 < _; omega)))
  · rw [World.frozen?_setCell]; exact (World.frozen?_of_block (a := ⟨B + 1 + 1, 7, none⟩) (hg.block (B + 1 + 1) hl (hb _ (by omega)))).trans k.z7
  · rw [List.length_append, List.flatMap_append]
    have := ownsRow_setCell_below hown (a := ⟨B + 1 + 1, 7, none⟩) (by show B + 1 + 1 < B + 3; omega) v'
    simpa using this
  · exact BC (k.below.grown hg (by have := k.base; omega) (fun j hj => by have := (k.row.lt j hj).1; have := k.base; omega)) (B + 1 + 1) 7 (by have := k.base; omega) _
set_option maxRecDepth 100000 in
set_option maxHeartbeats 4000000 in
theorem part_any (h : Wd) (xs : List (Int × Int)) (ss : List LkV) (set : Int) (w : World) (hm : HasW w h xs ss) (hl : ss.length ≤ 12) (hs : 0 ≤ set ∧ set < 4096) :
    Calls Try.prog 36 #[h.val, .int .i64 set] w (fun e w' => ∃ sa cap, e = .returned (partH h sa (partS ss set).length cap).val ∧ HasW w' (partH h sa (partS ss set).length cap) xs (partS ss set) ∧ Below w.heap.size w w') := by
  have HM := Lib.hid hm
  have HNS := Lib.hid hm.nl
  have hn12 : h.ln ≤ 12 := by rw [← hm.nl]; exact hl
  obtain ⟨hs0, hs1⟩ := hs
  have HST : Hid (∀ k, partTo ss set (k + 1) = if setI set k = true then partTo ss set k ++ [ss.getD k (0, 0, 0)] else partTo ss set k) := fun k => rfl
  have HP0 : Hid (partTo ss set 0 = []) := rfl
  have HSH : Hid (∀ k : Nat, k < 12 → (bits .and .i64 (set / 2 ^ k) 1 == 1) = setI set k) := fun k hk => bit_set ⟨hs0, hs1⟩ hk
  have HLEN : Hid (∀ k, k ≤ 12 → (partTo ss set k).length ≤ 12) := fun k hk => Nat.le_trans (part_len ss set k) hk
  have HOK : Hid (partS ss set = partTo ss set h.ln) := by show _ = _; unfold partS; rw [HNS.out]
  have HRD : Hid (∀ s, s ∈ partS ss set → s.2.2 ≤ 9223372036854775807) := fun s hsm => by
    obtain ⟨j, hj, _, rfl⟩ := part_mem.1 hsm
    rcases hm.lk with h0 | ⟨b, o, _, _, hc⟩
    · rw [h0] at hj; simp at hj
    · exact (hc j hj).2.2.2
  have hA0 := newB w (.cells #[.slice h.a h.n h.cap, .int .i64 h.eLo, .int .i64 h.eHi, .int .i64 h.images, .int .i64 h.eyes, .int .i64 h.hLo, .int .i64 h.hHi, .slice h.la h.ln h.lcap] 29)
  have hPK0 : PK w (((w.alloc (.cells #[.slice h.a h.n h.cap, .int .i64 h.eLo, .int .i64 h.eHi, .int .i64 h.images, .int .i64 h.eyes, .int .i64 h.hLo, .int .i64 h.hHi, .slice h.la h.ln h.lcap] 29)).alloc (.cells #[.slice none 0 0, .int .i64 0, .int .i64 0, .int .i64 0, .int .i64 0, .int .i64 0, .int .i64 0, .slice none 0 0] 29)).alloc (.cells #[.slice h.a h.n h.cap, .int .i64 h.eLo, .int .i64 h.eHi, .int .i64 h.images, .int .i64 h.eyes, .int .i64 h.hLo, .int .i64 h.hHi, .slice none 0 0] 29)) w.heap.size h (.slice none 0 0) [] := by
    have hX : Below w.heap.size w (((w.alloc (.cells #[.slice h.a h.n h.cap, .int .i64 h.eLo, .int .i64 h.eHi, .int .i64 h.images, .int .i64 h.eyes, .int .i64 h.hLo, .int .i64 h.hHi, .slice h.la h.ln h.lcap] 29)).alloc (.cells #[.slice none 0 0, .int .i64 0, .int .i64 0, .int .i64 0, .int .i64 0, .int .i64 0, .int .i64 0, .slice none 0 0] 29)).alloc (.cells #[.slice h.a h.n h.cap, .int .i64 h.eLo, .int .i64 h.eHi, .int .i64 h.images, .int .i64 h.eyes, .int .i64 h.hLo, .int .i64 h.hHi, .slice none 0 0] 29)) := by (repeat (first | assumption | exact Below.refl _ _ | refine BA ?_ _ | refine BC ?_ _ _ (by omega) _ | refine Below.drew ?_ | refine BT ?_ (by assumption)))
    refine ⟨?_, ?_, ?_, ?_, ?_, ?_, ?_, ?_, ?_, ?_, World.ownsRow_nil _ _ _ _, hX, Nat.le_refl _⟩
    · intro o ho
      have : o = 0 ∨ o = 1 ∨ o = 2 ∨ o = 3 ∨ o = 4 ∨ o = 5 ∨ o = 6 ∨ o = 7 := by omega
      rcases this with rfl | rfl | rfl | rfl | rfl | rfl | rfl | rfl <;> simp [go_sem]
    all_goals simp [go_sem]
  rw [HOK.out]
  unfold Wd.val
  clear hm hA0
  go_enter Try.func36, Try.ntmps36
  go_wp2_with fail
  generalize hBe : w.heap.size = B at hPK0 ⊢
  generalize ((w.alloc (.cells #[.slice h.a h.n h.cap, .int .i64 h.eLo, .int .i64 h.eHi, .int .i64 h.images, .int .i64 h.eyes, .int .i64 h.hLo, .int .i64 h.hHi, .slice h.la h.ln h.lcap] 29)).alloc (.cells #[.slice none 0 0, .int .i64 0, .int .i64 0, .int .i64 0, .int .i64 0, .int .i64 0, .int .i64 0, .slice none 0 0] 29)).alloc (.cells #[.slice h.a h.n h.cap, .int .i64 h.eLo, .int .i64 h.eHi, .int .i64 h.images, .int .i64 h.eyes, .int .i64 h.hLo, .int .i64 h.hHi, .slice none 0 0] 29) = W at *
  have hk9 : (h.ln : Int) ≤ 12 := by omega
  have hn9 : h.ln ≤ 9223372036854775807 := by omega
  have HPK0 := Lib.hid hPK0
  clear hPK0
  go_loopw [13] (fun i wr => ∃ k : Nat, k ≤ h.ln ∧ i = .int .i64 k ∧ ∃ sv, PK w wr B h sv (partTo ss set k)) (fun i _ => h.ln - (intOf i).toNat)
  case atStart => exact ⟨0, by omega, rfl, _, HPK0.out⟩
  case round =>
    obtain ⟨k, hk, rfl, sv, hP⟩ := hrel
    have hk0 : (0 : Int) ≤ (k : Int) := by omega
    have hM := HM.out.below hP.below
    have HP := Lib.hid hP
    clear hP
    by_cases hlt : k < h.ln
    · rcases hM.lk with hnil | ⟨b, ofs, hsa, hb, hc⟩
      · exfalso; have := HNS.out; rw [hnil] at this; simp at this; omega
      · have hkl : k < ss.length := by rw [HNS.out]; exact hlt
        obtain ⟨d0, d1, d2, _⟩ := hc k hkl
        have hst := Lib.hid (HST.out k)
        have hsh := HSH.out k (by omega)
        have hln := Lib.hid (HLEN.out k (by omega))
        rw [hsa]
        clear hc hM hsa
        generalize ss.getD k (0, 0, 0) = s at *
        obtain ⟨im, rd, rv⟩ := s
        dsimp only at d0 d1 d2
        generalize partTo ss set k = L at *
        cases hb : setI set k
        · rw [hb] at hsh
          have hst2 : Hid (partTo ss set (k + 1) = L) := by show _ = _; rw [hst.out, hb]; rfl
          have hP2 := Lib.hid (HP.out.grown (newB wr (.cells #[.int .i64 im, .int .i64 rd, .int .i64 rv] 47)))
          clear hst hb
          go_wp2
          go_roundw
          case rel => exact ⟨k + 1, by omega, by go_num, sv, by rw [hst2.out]; exact hP2.out⟩
          case measure => simp [intOf]; omega
        · rw [hb] at hsh
          have hst2 : Hid (partTo ss set (k + 1) = L ++ [(im, rd, rv)]) := by show _ = _; rw [hst.out, hb]; rfl
          have f7 := HP.out.f7
          have z7 := HP.out.z7
          have hBlt := HP.out.lt
          have hP2 := HP.out.grown ((newB wr (.cells #[.int .i64 im, .int .i64 rd, .int .i64 rv] 47)).trans ((newB (wr.alloc (.cells #[.int .i64 im, .int .i64 rd, .int .i64 rv] 47)) (.cells #[.int .i64 im, .int .i64 rd, .int .i64 rv] 47)).mono (by simp)))
          have HP2 := Lib.hid hP2
          have hrow2 := Lib.hid hP2.row
          have hBa := hP2.base
          have hlt2 := hP2.lt
          clear hP2 hst hb
          obtain ⟨i0, hi9, hz0, hz1, hz2⟩ := info_parts infoLk
          go_wp2_with (at_builtin; refine wpList_append_own _ rfl _ _ 27 rfl (B + 3) 47 i0 (.agg #[.int .i64 0, .int .i64 0, .int .i64 0]) 3 24 Try.underlying27 hi9 hz0 hz1 hz2 rfl (by decide) _ _ _ rfl hrow2.out ⟨wr.heap.size + 1, 0, none⟩ 1 1 (lookV (im, rd, rv)) rfl rfl ?c1 ?c2 ?c3 ?c4 ?c5 ?_)
          case c1 =>
            intro j u hj
            have hj3 : j < 3 := by have := (List.getElem?_eq_some_iff.1 hj).1; simpa [lookV] using this
            have : j = 0 ∨ j = 1 ∨ j = 2 := by omega
            rcases this with rfl | rfl | rfl <;> (simp [lookV] at hj; subst hj; simp [go_sem])
          case c2 => simp [lookV, Value.oneCell']
          case c3 => have := hln.out; unfold maxLen; omega
          case c4 => have := hln.out; omega
          case c5 => omega
          · intro v' w5 hown hg _
            obtain ⟨g', cap', rfl⟩ : ∃ g' cap', v' = .slice (some ⟨g', 0, none⟩) (L.length + 1) cap' := by
              rcases hown.2 with ⟨_, h2⟩ | ⟨g', cap', cur, h1, _⟩
              · omega
              · exact ⟨g', cap', h1⟩
            have hPn := Lib.hid (HP2.out.put (s := (im, rd, rv)) hg hown)
            have g7 := hg.cell HP2.out.f7 (fun e => by have := (HP2.out.row.lt _ e.symm).1; simp only at this; omega)
            have y7 : w5.frozen? ⟨B + 1 + 1, 7, none⟩ = false := (World.frozen?_of_block (a := ⟨B + 1 + 1, 7, none⟩) (hg.block (B + 1 + 1) hlt2 (fun e => by have := (HP2.out.row.lt _ e.symm).1; omega))).trans HP2.out.z7
            clear hown hg HP HP2 hrow2 f7 z7 hBlt
            go_wp2
            go_roundw
            case rel => exact ⟨k + 1, by omega, by go_num, _, by rw [hst2.out]; exact hPn.out⟩
            case measure => simp [intOf]; omega
    · obtain rfl : k = h.ln := by omega
      have hL : (partTo ss set h.ln).length ≤ 12 := HLEN.out _ hn12
      obtain ⟨sa, cap, hsv, hset⟩ : ∃ sa cap, sv = .slice sa (partTo ss set h.ln).length cap ∧ LooksIn wr sa (partTo ss set h.ln) := by
        have hrow := HP.out.row
        rcases hrow.2 with ⟨h1, h2⟩ | ⟨g, cap, cur, h1, _⟩
        · refine ⟨none, 0, ?_, .inl (List.eq_nil_of_length_eq_zero h2)⟩
          rw [h1, h2]
        · subst h1
          refine ⟨_, cap, rfl, looks_row hrow rfl (fun s hs => HRD.out s (by rw [HOK.out]; exact hs))⟩
      subst hsv
      have HF : Hid (HasW wr (partH h sa (partTo ss set h.ln).length cap) xs (partTo ss set h.ln)) := ⟨hM.sp, hset, hM.nx, rfl, hM.lx, by show _ ≤ _; omega⟩
      have f0 := HP.out.f0
      have f1 := HP.out.f1
      have f2 := HP.out.f2
      have f3 := HP.out.f3
      have f4 := HP.out.f4
      have f5 := HP.out.f5
      have f6 := HP.out.f6
      have f7 := HP.out.f7
      obtain ⟨v0, a0, b0⟩ := HP.out.res.get 0 (by omega)
      obtain ⟨v1, a1, b1⟩ := HP.out.res.get 1 (by omega)
      obtain ⟨v2, a2, b2⟩ := HP.out.res.get 2 (by omega)
      obtain ⟨v3, a3, b3⟩ := HP.out.res.get 3 (by omega)
      obtain ⟨v4, a4, b4⟩ := HP.out.res.get 4 (by omega)
      obtain ⟨v5, a5, b5⟩ := HP.out.res.get 5 (by omega)
      obtain ⟨v6, a6, b6⟩ := HP.out.res.get 6 (by omega)
      obtain ⟨v7, a7, b7⟩ := HP.out.res.get 7 (by omega)
      have hwB : w.heap.size ≤ B := by omega
      have hBw := HP.out.below
      have HBX : Hid (∀ X, BX (B + 1) wr X → HasW X (partH h sa (partTo ss set h.ln).length cap) xs (partTo ss set h.ln) ∧ Below w.heap.size w X) := fun X hX => by
        have hlt := HP.out.lt
        refine ⟨⟨(HM.out.below (BX.below hBw hX (by omega) hBw.size)).sp, ?_, HF.out.nx, rfl, HF.out.lx, HF.out.ll⟩, BX.below hBw hX (by omega) hBw.size⟩
        rcases HF.out.lk with h0 | ⟨b, o, h1, h2, h3⟩
        · exact .inl h0
        · have hb : b ≠ B + 1 := by
            intro e
            have := HP.out.row.lt b (by have h1' : sa = some ⟨b, o, none⟩ := h1; rw [h1']; simp [Value.ownBlock])
            omega
          exact .inr ⟨b, o, h1, Nat.lt_of_lt_of_le h2 hX.size, fun k hk => by
            obtain ⟨e0, e1, e2, e3⟩ := h3 k hk
            exact ⟨(hX.cell b _ h2 hb).trans e0, (hX.cell b _ h2 hb).trans e1, (hX.cell b _ h2 hb).trans e2, e3⟩⟩
      clear hset hM HF
      go_wp2
      have hFin := HBX.out _ ((((((((BX.set (B + 1) 0 wr (.slice h.a h.n h.cap)).trans (BX.set (B + 1) 1 _ (.int .i64 h.eLo))).trans (BX.set (B + 1) 2 _ (.int .i64 h.eHi))).trans (BX.set (B + 1) 3 _ (.int .i64 h.images))).trans (BX.set (B + 1) 4 _ (.int .i64 h.eyes))).trans (BX.set (B + 1) 5 _ (.int .i64 h.hLo))).trans (BX.set (B + 1) 6 _ (.int .i64 h.hHi))).trans (BX.set (B + 1) 7 _ (.slice sa (partTo ss set h.ln).length cap)))
      exact bodyPost_ret (v := (partH h sa (partTo ss set h.ln).length cap).val) (by simp [results, Try.results36, go_sem, a0, a1, a2, a3, a4, a5, a6, a7, Wd.val, partH]) rfl ⟨sa, cap, rfl, hFin.1, hFin.2⟩
end Ey
end Go.Proofs.Ytcfjakifeihbpaa
