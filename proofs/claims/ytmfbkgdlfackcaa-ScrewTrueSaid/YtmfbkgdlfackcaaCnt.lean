/- The map of counts: image to (upright, reversed), as a list in the order of its entries. -/
import Derived.Test.YtmfbkgdlfackcaaMop
import Derived.MapKept
namespace Go.Proofs.Ytmfbkgdlfackcaa
open Go.RowKit

abbrev Cnt := Int × Int × Int
def cntKV (c : Cnt) : Value × Value := (.int .i64 c.1, .agg #[.int .i64 c.2.1, .int .i64 c.2.2])
def posC (k : Int) : List Cnt → Nat → Option (Nat × Int × Int)
  | [], _ => none
  | c :: cs, i => if k == c.1 then some (i, c.2) else posC k cs (i + 1)
def getC (k : Int) (cs : List Cnt) : Int × Int := match posC k cs 0 with | some p => p.2 | none => (0, 0)
def hasC (k : Int) (cs : List Cnt) : Bool := (posC k cs 0).isSome
def setC (k : Int) (v : Int × Int) (cs : List Cnt) : List Cnt := match posC k cs 0 with | some p => cs.set p.1 (k, v) | none => cs ++ [(k, v)]

/-- Block B is a map that holds these counts. -/
def IsMap (w : World) (B : Nat) (cs : List Cnt) : Prop := ∃ es clock, w.heap[B]? = some (.map es clock) ∧ es.toList.map (fun e => (e.key, e.val)) = cs.map cntKV

theorem findNow_posC (k : Int) : ∀ (l : List MapEntry) (cs : List Cnt) (i : Nat), l.map (fun e => (e.key, e.val)) = cs.map cntKV →
    Instr.findNow (.int .i64) (.int .i64 k) l i = some ((posC k cs i).map fun p => (p.1, .agg #[.int .i64 p.2.1, .int .i64 p.2.2]))
  | [], [], _, _ => rfl
  | [], _ :: _, _, h => by simp at h
  | _ :: _, [], _, h => by simp at h
  | e :: l, c :: cs, i, h => by
    simp only [List.map_cons, List.cons.injEq, cntKV, Prod.mk.injEq] at h
    obtain ⟨⟨h1, h2⟩, h3⟩ := h
    have ih := findNow_posC k l cs (i + 1) h3
    simp only [Instr.findNow, h1, Instr.sameNow, if_true, posC]
    cases hk : (k == c.1)
    · simp [ih]
    · simp [h2]
theorem posC_some {k : Int} : ∀ {cs : List Cnt} {i : Nat} {p : Nat × Int × Int}, posC k cs i = some p → ∃ j, p.1 = i + j ∧ cs[j]? = some (k, p.2)
  | [], _, _, h => by simp [posC] at h
  | c :: cs, i, p, h => by
    simp only [posC] at h
    cases hk : (k == c.1)
    · rw [hk] at h
      obtain ⟨j, h1, h2⟩ := posC_some (cs := cs) (by simpa using h)
      exact ⟨j + 1, by omega, by simpa using h2⟩
    · rw [hk] at h
      simp only [if_true, Option.some.injEq] at h
      subst h
      exact ⟨0, rfl, by simp; have : k = c.1 := by simpa using hk
                        rw [this]⟩
theorem run_lookup93 {w : World} {B : Nat} {cs : List Cnt} (h : IsMap w B cs) (k : Int) :
    (Instr.lookup 93 (.map (some B)) (.int .i64 k) false).run Try.prog w = .ok (.agg #[.int .i64 (getC k cs).1, .int .i64 (getC k cs).2]) w := by
  obtain ⟨es, clock, hb, hes⟩ := h
  have ht : Try.prog.underlying 93 = some (.map 3 97) := by kernel_rfl
  have hk : Try.prog.underlying 3 = some (.int .i64) := by kernel_rfl
  have hz : (zeroValue 97).run Try.prog w = .ok (.agg #[.int .i64 0, .int .i64 0]) w := by simp [go_sem]
  have hf := MapKept.run_findKey (P := Try.prog) (w := w) hk (findNow_posC k es.toList cs 0 hes)
  cases hp : posC k cs 0 with
  | none =>
    rw [hp] at hf
    simp [Instr.lookup, run_underlying ht, MapKept.run_getObj_map hb, MapKept.run_checkKey hk (show MapKept.IsKey (.int .i64) (.int .i64 k) from rfl), hf, hz, Result.andThen, getC, hp]
  | some p =>
    rw [hp] at hf
    simp [Instr.lookup, run_underlying ht, MapKept.run_getObj_map hb, MapKept.run_checkKey hk (show MapKept.IsKey (.int .i64) (.int .i64 k) from rfl), hf, Result.andThen, getC, hp]
theorem run_lookup93_ok {w : World} {B : Nat} {cs : List Cnt} (h : IsMap w B cs) (k : Int) :
    (Instr.lookup 93 (.map (some B)) (.int .i64 k) true).run Try.prog w = .ok (.tuple #[.agg #[.int .i64 (getC k cs).1, .int .i64 (getC k cs).2], .bool (hasC k cs)]) w := by
  obtain ⟨es, clock, hb, hes⟩ := h
  have ht : Try.prog.underlying 93 = some (.map 3 97) := by kernel_rfl
  have hk : Try.prog.underlying 3 = some (.int .i64) := by kernel_rfl
  have hz : (zeroValue 97).run Try.prog w = .ok (.agg #[.int .i64 0, .int .i64 0]) w := by simp [go_sem]
  have hf := MapKept.run_findKey (P := Try.prog) (w := w) hk (findNow_posC k es.toList cs 0 hes)
  cases hp : posC k cs 0 with
  | none =>
    rw [hp] at hf
    simp [Instr.lookup, run_underlying ht, MapKept.run_getObj_map hb, MapKept.run_checkKey hk (show MapKept.IsKey (.int .i64) (.int .i64 k) from rfl), hf, hz, Result.andThen, getC, hasC, hp]
  | some p =>
    rw [hp] at hf
    simp [Instr.lookup, run_underlying ht, MapKept.run_getObj_map hb, MapKept.run_checkKey hk (show MapKept.IsKey (.int .i64) (.int .i64 k) from rfl), hf, Result.andThen, getC, hasC, hp]
/-- A block of any kind is written. -/
def putB (w : World) (B : Nat) (o : Obj) : World := { w with heap := w.heap.setIfInBounds B o }
theorem BX.putB (B : Nat) (w : World) (o : Obj) : BX B w (putB w B o) :=
  ⟨rfl, rfl, rfl, by simp [Ytmfbkgdlfackcaa.putB], fun k _ hn => by simp only [Ytmfbkgdlfackcaa.putB]; rw [Array.getElem?_setIfInBounds_ne (fun h => hn h.symm)]⟩
theorem run_update93 {w : World} {B : Nat} {cs : List Cnt} (h : IsMap w B cs) (k u r : Int) :
    ∃ w', (Instr.mapUpdate 93 (.map (some B)) (.int .i64 k) (.agg #[.int .i64 u, .int .i64 r])).run Try.prog w = .ok () w' ∧ IsMap w' B (setC k (u, r) cs) ∧ BX B w w' := by
  obtain ⟨es, clock, hb, hes⟩ := h
  have hlt : B < w.heap.size := (Array.getElem?_eq_some_iff.1 hb).1
  have ht : Try.prog.underlying 93 = some (.map 3 97) := by kernel_rfl
  have hk : Try.prog.underlying 3 = some (.int .i64) := by kernel_rfl
  have hf := MapKept.run_findKey (P := Try.prog) (w := w) hk (findNow_posC k es.toList cs 0 hes)
  cases hp : posC k cs 0 with
  | none =>
    rw [hp] at hf
    refine ⟨putB w B (.map (es.push { key := .int .i64 k, val := .agg #[.int .i64 u, .int .i64 r], born := clock }) (clock + 1)), ?_, ⟨_, _, by simp [putB, hlt]; exact ⟨rfl, rfl⟩, ?_⟩, BX.putB _ _ _⟩
    · simp [Instr.mapUpdate, run_underlying ht, MapKept.run_getObj_map hb, MapKept.run_checkKey hk (show MapKept.IsKey (.int .i64) (.int .i64 k) from rfl), hf, MapKept.run_setObj_map _ hb, Result.andThen, putB]
    · simp [setC, hp, hes, cntKV]
  | some p =>
    rw [hp] at hf
    obtain ⟨j, hj, hc⟩ := posC_some hp
    obtain ⟨q, v⟩ := p
    obtain rfl : q = j := by simpa using hj
    have hjl : q < cs.length := (List.getElem?_eq_some_iff.1 hc).1
    have hlen : es.toList.length = cs.length := by have := congrArg List.length hes; simpa using this
    have hkey : (es[q]?).map (·.key) = some (.int .i64 k) := by
      have := congrArg (fun l => l[q]?) hes
      simp only [List.getElem?_map, hc, Option.map_some, cntKV] at this
      rw [Array.getElem?_toList] at this
      cases he : es[q]? with
      | none => rw [he] at this; simp at this
      | some e => rw [he] at this; simp at this; simp [this.1]
    refine ⟨putB w B (.map (es.modify q fun e => { e with key := .int .i64 k, val := .agg #[.int .i64 u, .int .i64 r] }) clock), ?_, ⟨_, _, by simp [putB, hlt]; exact ⟨rfl, rfl⟩, ?_⟩, BX.putB _ _ _⟩
    · simp [Instr.mapUpdate, run_underlying ht, MapKept.run_getObj_map hb, MapKept.run_checkKey hk (show MapKept.IsKey (.int .i64) (.int .i64 k) from rfl), hf, hkey, MapKept.run_keyThatStays (show MapKept.IsKey (.int .i64) (.int .i64 k) from rfl), MapKept.run_setObj_map _ hb, Result.andThen, putB]
    · simp only [Array.toList_modify, setC, hp]
      apply List.ext_getElem?
      intro i
      have hi := congrArg (fun l => l[i]?) hes
      simp only [List.getElem?_map] at hi
      simp only [List.getElem?_map, List.getElem?_modify, List.getElem?_set]
      by_cases e : q = i
      · subst e
        have he : q < es.toList.length := by omega
        simp [hjl, cntKV, List.getElem?_eq_getElem he]
      · simp only [e, if_false]
        simpa using hi
theorem IsMap.kept {w w' : World} {B : Nat} {cs : List Cnt} (h : IsMap w B cs) (hb : w'.heap[B]? = w.heap[B]?) : IsMap w' B cs := by
  obtain ⟨es, c, h1, h2⟩ := h
  exact ⟨es, c, hb.trans h1, h2⟩
theorem isMap_new (w : World) : IsMap (w.alloc (.map #[] 0)) w.heap.size [] := ⟨#[], 0, heap_new _ _, rfl⟩
theorem IsMap.lt {w : World} {B : Nat} {cs : List Cnt} (h : IsMap w B cs) : B < w.heap.size := by
  obtain ⟨es, c, h1, _⟩ := h
  exact (Array.getElem?_eq_some_iff.1 h1).1
end Go.Proofs.Ytmfbkgdlfackcaa
