/- 'ScrewTurned': for every measure, two images and number, in whatever memory, on every order of evaluation that Go leaves open: the call returns true, and what came in reads as before. No condition. -/
import Derived.Test.YtmfbkgdlfackcaaMtr
import Derived.Test.YtmfbkgdlfackcaaMor
import Derived.Test.YtmfbkgdlfackcaaIdm
import Derived.Test.YtmfbkgdlfackcaaRon
import Derived.Test.YtmfbkgdlfackcaaPar
import Derived.Test.YtmfbkgdlfackcaaIdr
import Derived.Test.YtmfbkgdlfackcaaMo2
import Derived.Test.YtmfbkgdlfackcaaSev
import Derived.Test.YtmfbkgdlfackcaaWit
import Derived.Deep.CutRange
import Derived.Test.YtmfbkgdlfackcaaArg
namespace Go.Proofs.Ytmfbkgdlfackcaa
section
variable {P : Program} {ops : Array Oper} {l : List Oper} {Q : Exit → Act → World → Prop} {md : Region.Mode} {S : World → Prop} {F : List Nat}

/-- It waits for all of them. -/
def finalF (md : Region.Mode) (ops : Array Oper) (F : List Nat) (j : Nat) : Bool := F.all fun k => k == j || (depsN md ops 2 (deps md ops j)).contains k
def wpAnyRF (P : Program) (md : Region.Mode) (ops : Array Oper) (F : List Nat) (Q : Exit → Act → World → Prop) (S : World → Prop) : Nat → Array Bool → Act → World → Prop
  | 0, listed, a, w => Region.ready md ops listed = [] ∧ Q .normal a w
  | fuel + 1, listed, a, w =>
    (Region.ready md ops listed = [] → Q .normal a w) ∧
    ∀ i ∈ Region.ready md ops listed, wpOp P ops Q i (fun a' w' => (finalF md ops F i = false → S w') ∧ wpAnyRF P md ops F Q S fuel (listed.setIfInBounds i true) a' w') a w
theorem wpAny_of_RF : ∀ (fuel : Nat) (listed : Array Bool) (a : Act) (w : World), wpAnyRF P md ops F Q S fuel listed a w → wpAny P md ops Q fuel listed a w
  | 0, _, _, _, h => h
  | fuel + 1, _, _, _, h => ⟨h.1, fun i hi => wpOp_mono (fun a' w' h' => wpAny_of_RF fuel _ a' w' h'.2) (h.2 i hi)⟩
theorem not_finalF {listed : Array Bool} {i j : Nat} (hc : Closed md ops listed) (hi : i ∈ Region.ready md ops listed) (hj : j ∈ Region.ready md ops listed) (hne : j ≠ i) (hF : i ∈ F) : finalF md ops F j = false := by
  obtain ⟨hi0, oi, hoi, _⟩ := mem_ready.1 hi
  cases hf : finalF md ops F j
  · rfl
  · exfalso
    unfold finalF at hf
    rw [List.all_eq_true] at hf
    have h1 := hf i hF
    simp only [Bool.or_eq_true, beq_iff_eq, List.contains_iff_mem] at h1
    rcases h1 with h1 | h1
    · exact hne h1.symm
    · have h2 := closed_depsN hc 2 _ (deps_ready hj) i h1
      rcases Nat.lt_or_ge i listed.size with h' | h'
      · simp [h'] at hi0 h2; rw [hi0] at h2; cases h2
      · simp [Array.getElem?_eq_none h'] at h2
theorem wpAnyR_firstF {i : Nat} {oi : Oper} {v : Value} (hF : i ∈ F) (hi : ops[i]? = some oi) (hsel : ∀ (j : Nat) (o : Oper) cs b, ops[j]? = some o → o.op ≠ .select cs b)
    (hQ : ∀ c a w, Q (.panic c) (a.put oi.dst v) w → Q (.panic c) a w) :
    ∀ (fuel : Nat) (listed : Array Bool) (a : Act) (w : World), Closed md ops listed →
      (∀ j oj, ops[j]? = some oj → j ≠ i → listed.getD j true = false → (∀ e ∈ oj.after, Region.binds md e = true → e.on ≠ i) → oi.apart ops oj = true) →
      i ∈ Region.ready md ops listed → YieldsIf P ops S oi v a → S w →
      wpAnyRF P md ops F Q S fuel (listed.setIfInBounds i true) (a.put oi.dst v) w → wpAnyRF P md ops F Q S (fuel + 1) listed a w := by
  intro fuel
  induction fuel with
  | zero =>
    intro listed a w _ _ hr hy hS H
    refine ⟨fun h => absurd hr (by rw [h]; simp), fun j hj => ?_⟩
    by_cases hji : j = i
    · subst hji; exact hy.wpOp hi hS ⟨fun _ => hS, H⟩
    · have hj' := ready_mono hj hji
      rw [H.1] at hj'; cases hj'
  | succ fuel ih =>
    intro listed a w hcl hfree hr hy hS H
    refine ⟨fun h => absurd hr (by rw [h]; simp), fun j hj => ?_⟩
    by_cases hji : j = i
    · subst hji; exact hy.wpOp hi hS ⟨fun _ => hS, H⟩
    · have hnf := not_finalF hcl hr hj hji hF
      obtain ⟨hjun, oj, hoj, hall⟩ := mem_ready.1 hj
      have hnot : ∀ e ∈ oj.after, Region.binds md e = true → e.on ≠ i := fun e he hb heq => by
        have h2 := hall e he hb
        have h0 := (mem_ready.1 hr).1
        rw [heq] at h2
        rcases Nat.lt_or_ge i listed.size with h' | h'
        · simp [h'] at h0 h2; rw [h0] at h2; cases h2
        · simp [Array.getElem?_eq_none h'] at h2
      have hstep := wpOp_putIf hoj (hfree j oj hoj hji hjun hnot) (fun cs b => hsel i oi cs b hi) (fun cs b => hsel j oj cs b hoj) hQ hy (H.2 j (ready_mono hj hji))
      have hfree2 : ∀ k ok, ops[k]? = some ok → k ≠ i → (listed.setIfInBounds j true).getD k true = false →
          (∀ e ∈ ok.after, Region.binds md e = true → e.on ≠ i) → oi.apart ops ok = true := fun k ok hk hki hun hno => by
        refine hfree k ok hk hki ?_ hno
        by_cases hjk : j = k
        · subst hjk; exact hjun
        · rw [getD_set_ne true hjk] at hun; exact hun
      refine wpOp_mono (fun a' w' h3 => ?_) hstep
      obtain ⟨hy3, hS3, h3⟩ := h3
      rw [Array.setIfInBounds_comm _ _ (Ne.symm hji)] at h3
      exact ⟨hS3, ih (listed.setIfInBounds j true) a' w' (closed_set hcl hj) hfree2 (ready_mono hr (Ne.symm hji)) hy3 (hS3 hnf) h3⟩


def lateTr (md : Region.Mode) (ops : Array Oper) (F : List Nat) : Tr → Bool
  | .leaf => true
  | .one i t => finalF md ops F i && lateTr md ops F t
  | _ => false
def okTrF (md : Region.Mode) (ops : Array Oper) (F : List Nat) : Tr → Array Bool → Bool
  | .leaf, d => (Region.ready md ops d).isEmpty
  | .read i t, d => F.contains i && (Region.ready md ops d).contains i && Region.free md ops d i && okTrF md ops F t (d.setIfInBounds i true)
  | .one i t, d => decide (Region.ready md ops d = [i]) && (!finalF md ops F i || lateTr md ops F t) && okTrF md ops F t (d.setIfInBounds i true)
  | .two i t j u, d => decide (Region.ready md ops d = [i, j]) && !finalF md ops F i && !finalF md ops F j && okTrF md ops F t (d.setIfInBounds i true) && okTrF md ops F u (d.setIfInBounds j true)
  | .three i t j u k v, d => decide (Region.ready md ops d = [i, j, k]) && !finalF md ops F i && !finalF md ops F j && !finalF md ops F k && okTrF md ops F t (d.setIfInBounds i true) && okTrF md ops F u (d.setIfInBounds j true) && okTrF md ops F v (d.setIfInBounds k true)
def stepTrF (P : Program) (md : Region.Mode) (l : List Oper) (F : List Nat) (Q : Exit → Act → World → Prop) (S : World → Prop) (i : Nat) (K : Act → World → Prop) (a : Act) (w : World) : Prop :=
  match l[i]? with
  | none => False
  | some o => (Region.wanted o (yielded l.toArray a.tmps) = false ∧ K (a.put o.dst undef) w) ∨
      (Region.wanted o (yielded l.toArray a.tmps) = true ∧ o.wp P a w (fun a' w' => (finalF md l.toArray F i = false → S w') ∧ ((finalF md l.toArray F i = false → S w') → K a' w')) Q)
def wpTrF (P : Program) (md : Region.Mode) (l : List Oper) (F : List Nat) (Q : Exit → Act → World → Prop) (S : World → Prop) : Tr → Act → World → Prop
  | .leaf, a, w => Q .normal a w
  | .read i t, a, w => match l[i]? with
    | none => False
    | some o => (Region.wanted o (yielded l.toArray a.tmps) = false ∧ wpTrF P md l F Q S t (a.put o.dst undef) w) ∨
        (Region.wanted o (yielded l.toArray a.tmps) = true ∧ ∃ v, (∀ w', S w' → (execOp a.eval o).run P w' = .ok (.value v) w') ∧ wpTrF P md l F Q S t (a.put o.dst v) w)
  | .one i t, a, w => stepTrF P md l F Q S i (wpTrF P md l F Q S t) a w
  | .two i t j u, a, w => stepTrF P md l F Q S i (wpTrF P md l F Q S t) a w ∧ stepTrF P md l F Q S j (wpTrF P md l F Q S u) a w
  | .three i t j u k v, a, w => stepTrF P md l F Q S i (wpTrF P md l F Q S t) a w ∧ stepTrF P md l F Q S j (wpTrF P md l F Q S u) a w ∧ stepTrF P md l F Q S k (wpTrF P md l F Q S v) a w

theorem step_soundF {i fuel : Nat} {K : Act → World → Prop} {listed : Array Bool} {a : Act} {w : World} (hS : finalF md l.toArray F i = false → S w) (h : stepTrF P md l F Q S i K a w)
    (hK : ∀ a' w', (finalF md l.toArray F i = false → S w') → K a' w' → wpAnyRF P md l.toArray F Q S fuel (listed.setIfInBounds i true) a' w') :
    wpOp P l.toArray Q i (fun a' w' => (finalF md l.toArray F i = false → S w') ∧ wpAnyRF P md l.toArray F Q S fuel (listed.setIfInBounds i true) a' w') a w := by
  unfold stepTrF at h
  cases ho : l[i]? with
  | none => rw [ho] at h; exact h.elim
  | some o =>
    rw [ho] at h
    have ho' : l.toArray[i]? = some o := by simpa using ho
    unfold Go.wpOp
    rw [ho']
    rcases h with ⟨hw, h⟩ | ⟨hw, h⟩
    · simp only [hw, Bool.false_eq_true, if_false]
      exact ⟨hS, hK _ _ hS h⟩
    · simp only [hw, if_true]
      exact Or.inl (Oper.wp_mono (fun a' w' h' => ⟨h'.1, hK a' w' h'.1 (h'.2 h'.1)⟩) h)

theorem wpTr_soundF (hs : Region.noSelect l.toArray = true) (hQ : ∀ c a d v w, Q (.panic c) (Act.put a d v) w → Q (.panic c) a w) :
    ∀ (t : Tr) (fuel : Nat) (listed : Array Bool) (a : Act) (w : World), t.depth ≤ fuel → Closed md l.toArray listed → okTrF md l.toArray F t listed = true → (lateTr md l.toArray F t = false → S w) → wpTrF P md l F Q S t a w → wpAnyRF P md l.toArray F Q S fuel listed a w := by
  intro t
  induction t with
  | leaf =>
    intro fuel listed a w _ _ hok _ h
    have hr : Region.ready md l.toArray listed = [] := by simpa [okTrF] using hok
    cases fuel with
    | zero => exact ⟨hr, h⟩
    | succ fuel => exact ⟨fun _ => h, by rw [hr]; simp⟩
  | read i t ih =>
    intro fuel listed a w hf hcl hok hS0 h
    have hS := hS0 rfl
    cases fuel with
    | zero => simp [Tr.depth] at hf
    | succ fuel =>
      have hf' : t.depth ≤ fuel := by simp [Tr.depth] at hf; omega
      simp only [okTrF, Bool.and_eq_true] at hok
      obtain ⟨⟨⟨hF, hc⟩, hfr⟩, hok⟩ := hok
      have hF : i ∈ F := by simpa using hF
      have hr : i ∈ Region.ready md l.toArray listed := by simpa using hc
      simp only [wpTrF] at h
      cases ho : l[i]? with
      | none => rw [ho] at h; exact h.elim
      | some o =>
        rw [ho] at h
        have ho' : l.toArray[i]? = some o := by simpa using ho
        rcases h with ⟨hw, h⟩ | ⟨hw, v, hv, h⟩
        · exact wpAnyR_firstF hF ho' (Region.noSelect_spec hs) (fun c a w => hQ c a _ _ w) fuel listed a w hcl (Region.free_spec ho' hfr) hr (Or.inr ⟨hw, rfl⟩) hS (ih fuel _ _ _ hf' (closed_set hcl hr) hok (fun _ => hS) h)
        · exact wpAnyR_firstF hF ho' (Region.noSelect_spec hs) (fun c a w => hQ c a _ _ w) fuel listed a w hcl (Region.free_spec ho' hfr) hr (Or.inl ⟨hw, hv⟩) hS (ih fuel _ _ _ hf' (closed_set hcl hr) hok (fun _ => hS) h)
  | one i t ih =>
    intro fuel listed a w hf hcl hok hS0 h
    cases fuel with
    | zero => simp [Tr.depth] at hf
    | succ fuel =>
      have hf' : t.depth ≤ fuel := by simp [Tr.depth] at hf; omega
      simp only [okTrF, Bool.and_eq_true, decide_eq_true_eq, Bool.or_eq_true, Bool.not_eq_true'] at hok
      obtain ⟨⟨hr, hfin⟩, hok⟩ := hok
      refine ⟨fun h0 => absurd h0 (by rw [hr]; simp), fun j hj => ?_⟩
      rw [hr] at hj
      obtain rfl : j = i := by simpa using hj
      refine step_soundF (fun hi => hS0 (by simp [lateTr, hi])) h (fun a' w' hS' h' => ih fuel _ _ _ hf' (closed_set hcl (by rw [hr]; simp)) hok (fun hl => ?_) h')
      rcases hfin with hfin | hfin
      · exact hS' hfin
      · rw [hfin] at hl; cases hl
  | two i t j u iht ihu =>
    intro fuel listed a w hf hcl hok hS0 h
    have hS := hS0 rfl
    cases fuel with
    | zero => simp [Tr.depth] at hf
    | succ fuel =>
      have hf' : t.depth ≤ fuel ∧ u.depth ≤ fuel := by simp [Tr.depth] at hf; omega
      simp only [okTrF, Bool.and_eq_true, decide_eq_true_eq, Bool.not_eq_true'] at hok
      obtain ⟨⟨⟨⟨hr, hi⟩, hj⟩, hok1⟩, hok2⟩ := hok
      obtain ⟨h1, h2⟩ := h
      refine ⟨fun h0 => absurd h0 (by rw [hr]; simp), fun k hk => ?_⟩
      rw [hr] at hk
      simp only [List.mem_cons, List.not_mem_nil, or_false] at hk
      rcases hk with rfl | rfl
      · exact step_soundF (fun _ => hS) h1 (fun a' w' hS' h' => iht fuel _ _ _ hf'.1 (closed_set hcl (by rw [hr]; simp)) hok1 (fun _ => hS' hi) h')
      · exact step_soundF (fun _ => hS) h2 (fun a' w' hS' h' => ihu fuel _ _ _ hf'.2 (closed_set hcl (by rw [hr]; simp)) hok2 (fun _ => hS' hj) h')
  | three i t j u k v iht ihu ihv =>
    intro fuel listed a w hf hcl hok hS0 h
    have hS := hS0 rfl
    cases fuel with
    | zero => simp [Tr.depth] at hf
    | succ fuel =>
      have hf' : t.depth ≤ fuel ∧ u.depth ≤ fuel ∧ v.depth ≤ fuel := by simp [Tr.depth] at hf; omega
      simp only [okTrF, Bool.and_eq_true, decide_eq_true_eq, Bool.not_eq_true'] at hok
      obtain ⟨⟨⟨⟨⟨⟨hr, hi⟩, hj⟩, hk'⟩, hok1⟩, hok2⟩, hok3⟩ := hok
      obtain ⟨h1, h2, h3⟩ := h
      refine ⟨fun h0 => absurd h0 (by rw [hr]; simp), fun m hm => ?_⟩
      rw [hr] at hm
      simp only [List.mem_cons, List.not_mem_nil, or_false] at hm
      rcases hm with rfl | rfl | rfl
      · exact step_soundF (fun _ => hS) h1 (fun a' w' hS' h' => iht fuel _ _ _ hf'.1 (closed_set hcl (by rw [hr]; simp)) hok1 (fun _ => hS' hi) h')
      · exact step_soundF (fun _ => hS) h2 (fun a' w' hS' h' => ihu fuel _ _ _ hf'.2.1 (closed_set hcl (by rw [hr]; simp)) hok2 (fun _ => hS' hj) h')
      · exact step_soundF (fun _ => hS) h3 (fun a' w' hS' h' => ihv fuel _ _ _ hf'.2.2 (closed_set hcl (by rw [hr]; simp)) hok3 (fun _ => hS' hk') h')


def treeOkF (ops : Array Oper) (F : List Nat) (t : Tr) : Bool := Region.noSelect ops && decide (t.depth ≤ ops.size) && okTrF .any ops F t (Array.replicate ops.size false)
/-- The beginning: the tree, checked by the kernel; S of the world at hand. -/
theorem wp_region_treeF {id : Nat} {a : Act} {w : World} (F : List Nat) (t : Tr) (S : World → Prop) (hm : P.follows .mixedOrders = true) (hok : treeOkF l.toArray F t = true)
    (hQ : ∀ c a d v w, Q (.panic c) (Act.put a d v) w → Q (.panic c) a w) (hS : S w.drew) (h : wpTrF P .any l F Q S t a w.drew) : (Code.region id l.toArray true).wp P Q a w := by
  unfold treeOkF at hok
  simp only [Bool.and_eq_true, decide_eq_true_eq] at hok
  obtain ⟨⟨h1, h2⟩, h3⟩ := hok
  exact wp_region_any hm (wpAny_of_RF (S := S) _ _ _ _ (wpTr_soundF h1 hQ t _ _ _ _ h2 (closed_none _) h3 (fun _ => hS) h))
theorem trF_skip {i : Nat} {t : Tr} {o : Oper} {a : Act} {w : World} (ho : l[i]? = some o) (hw : Region.wanted o (yielded l.toArray a.tmps) = false)
    (h : wpTrF P md l F Q S t (a.put o.dst undef) w) : wpTrF P md l F Q S (.read i t) a w := by
  simp only [wpTrF, ho]; exact .inl ⟨hw, h⟩
theorem trF_read {i : Nat} {t : Tr} {o : Oper} {a : Act} {w : World} (ho : l[i]? = some o) (hw : Region.wanted o (yielded l.toArray a.tmps) = true) (v : Value)
    (hv : ∀ w', S w' → (execOp a.eval o).run P w' = .ok (.value v) w') (h : wpTrF P md l F Q S t (a.put o.dst v) w) : wpTrF P md l F Q S (.read i t) a w := by
  simp only [wpTrF, ho]; exact .inr ⟨hw, v, hv, h⟩
theorem trF_step {i : Nat} {T : Act → World → Prop} {o : Oper} {a : Act} {w : World} (ho : l[i]? = some o) (hw : Region.wanted o (yielded l.toArray a.tmps) = true)
    (h : ∀ K : Act → World → Prop, (∀ a w, S w → T a w → K a w) → o.wp P a w K Q) : stepTrF P md l F Q S i T a w := by
  simp only [stepTrF, ho]; exact .inr ⟨hw, by simpa using h _ (fun a w hS h => ⟨fun _ => hS, fun _ => h⟩)⟩
/-- One that waits for all reads that are listed. -/
theorem trF_late {i : Nat} {T : Act → World → Prop} {o : Oper} {a : Act} {w : World} (ho : l[i]? = some o) (hw : Region.wanted o (yielded l.toArray a.tmps) = true) (hf : finalF md l.toArray F i = true)
    (h : ∀ K : Act → World → Prop, (∀ a w, T a w → K a w) → o.wp P a w K Q) : stepTrF P md l F Q S i T a w := by
  simp only [stepTrF, ho]; exact .inr ⟨hw, by simpa [hf] using h T (fun a w h => h)⟩
end
end Go.Proofs.Ytmfbkgdlfackcaa

namespace Go.Proofs.Ytmfbkgdlfackcaa
open Fw Go.RowKit

theorem tru_get {lo hi : Int} {ts : List Tell} {x : Nat → Int} : Tru lo hi ts x ↔ (lo ≤ x 1 - x 0 ∧ x 1 - x 0 ≤ hi) ∧ ∀ k, k < ts.length → Keeps (ts.getD k dfl) x := by
  constructor
  · intro h
    exact ⟨h.1, fun k hk => h.2 _ (by simp [List.getD, hk])⟩
  · intro h
    refine ⟨h.1, fun t ht => ?_⟩
    obtain ⟨k, hk, rfl⟩ := List.getElem_of_mem ht
    have := h.2 k hk
    simpa [List.getD, hk] using this
/-- Setting k of one measure tells of x what setting r k of the other one tells of f x, and back by g. -/
structure Turn (h : Hd) (xs : List (Int × Int)) (ss : List Sett) (h' : Hd) (ss' : List Sett) (f g : (Nat → Int) → Nat → Int) (r : Nat → Nat) : Prop where
  hv : validH h xs ss = true
  hv' : validH h' xs ss' = true
  im : h'.images = h.images
  sl : h'.sLo = h.sLo
  su : h'.sHi = h.sHi
  len : ss'.length = ss.length
  sf : ∀ x, f x 1 - f x 0 = x 1 - x 0
  sg : ∀ x, g x 1 - g x 0 = x 1 - x 0
  rl : ∀ k, k < ss.length → r k < ss.length
  rr : ∀ k, k < ss.length → r (r k) = k
  kf : ∀ k, k < ss.length → ∀ x, Keeps ((tellsOf xs h.eLo h.eHi ss).getD k dfl) x ↔ Keeps ((tellsOf xs h'.eLo h'.eHi ss').getD (r k) dfl) (f x)
  kg : ∀ k, k < ss.length → ∀ x, Keeps ((tellsOf xs h'.eLo h'.eHi ss').getD (r k) dfl) x ↔ Keeps ((tellsOf xs h.eLo h.eHi ss).getD k dfl) (g x)
section
variable {h h' : Hd} {xs : List (Int × Int)} {ss ss' : List Sett} {f g : (Nat → Int) → Nat → Int} {r : Nat → Nat}
theorem Turn.tells (t : Turn h xs ss h' ss' f g r) {set set' : Int} (hs : ∀ k, k < ss.length → hasB set' (r k) = hasB set k) {x : Nat → Int} (hx : TellsB h.sLo h.sHi (tellsOf xs h.eLo h.eHi ss) set x) :
    TellsB h'.sLo h'.sHi (tellsOf xs h'.eLo h'.eHi ss') set' (f x) := by
  refine ⟨by rw [t.sf, t.sl, t.su]; exact hx.1, fun k hk hb => ?_⟩
  rw [len_tells, t.len] at hk
  have h1 := t.rl k hk
  have h2 := t.rr k hk
  rw [← h2]
  refine (t.kf (r k) h1 x).1 (hx.2 (r k) (by rw [len_tells]; exact h1) ?_)
  rw [← hs (r k) h1, h2]; exact hb
theorem Turn.back (t : Turn h xs ss h' ss' f g r) {set set' : Int} (hs : ∀ k, k < ss.length → hasB set' (r k) = hasB set k) {x : Nat → Int} (hx : TellsB h'.sLo h'.sHi (tellsOf xs h'.eLo h'.eHi ss') set' x) :
    TellsB h.sLo h.sHi (tellsOf xs h.eLo h.eHi ss) set (g x) := by
  refine ⟨by rw [t.sg, ← t.sl, ← t.su]; exact hx.1, fun k hk hb => ?_⟩
  rw [len_tells] at hk
  refine (t.kg k hk x).1 (hx.2 (r k) (by rw [len_tells, t.len]; exact t.rl k hk) ?_)
  rw [hs k hk]; exact hb
theorem Turn.tru (t : Turn h xs ss h' ss' f g r) {x : Nat → Int} (hx : Tru h.sLo h.sHi (tellsOf xs h.eLo h.eHi ss) x) : Tru h'.sLo h'.sHi (tellsOf xs h'.eLo h'.eHi ss') (f x) := by
  rw [tru_get] at hx ⊢
  refine ⟨by rw [t.sf, t.sl, t.su]; exact hx.1, fun k hk => ?_⟩
  rw [len_tells, t.len] at hk
  rw [← t.rr k hk]
  exact (t.kf (r k) (t.rl k hk) x).1 (hx.2 _ (by rw [len_tells]; exact t.rl k hk))
theorem Turn.tru' (t : Turn h xs ss h' ss' f g r) {x : Nat → Int} (hx : Tru h'.sLo h'.sHi (tellsOf xs h'.eLo h'.eHi ss') x) : Tru h.sLo h.sHi (tellsOf xs h.eLo h.eHi ss) (g x) := by
  rw [tru_get] at hx ⊢
  refine ⟨by rw [t.sg, ← t.sl, ← t.su]; exact hx.1, fun k hk => ?_⟩
  rw [len_tells] at hk
  exact (t.kg k hk x).1 (hx.2 _ (by rw [len_tells, t.len]; exact t.rl k hk))
theorem Turn.ex (t : Turn h xs ss h' ss' f g r) : (∃ x, Tru h.sLo h.sHi (tellsOf xs h.eLo h.eHi ss) x) ↔ ∃ x, Tru h'.sLo h'.sHi (tellsOf xs h'.eLo h'.eHi ss') x :=
  ⟨fun ⟨x, hx⟩ => ⟨f x, t.tru hx⟩, fun ⟨x, hx⟩ => ⟨g x, t.tru' hx⟩⟩
/-- Ends of a difference, carried over; with the other sign, too. -/
theorem Turn.ext (t : Turn h xs ss h' ss' f g r) {i j i' j' : Nat} (e : ∀ x, f x j' - f x i' = x j - x i) (e' : ∀ x, g x j - g x i = x j' - x i') {lo hi : Int}
    (hx : Ext (Tru h.sLo h.sHi (tellsOf xs h.eLo h.eHi ss)) i j lo hi) : Ext (Tru h'.sLo h'.sHi (tellsOf xs h'.eLo h'.eHi ss')) i' j' lo hi := by
  obtain ⟨h1, ⟨x, x1, x2⟩, z, z1, z2⟩ := hx
  exact ⟨fun y hy => by have := h1 _ (t.tru' hy); rw [e'] at this; exact this, ⟨f x, t.tru x1, by rw [e, x2]⟩, f z, t.tru z1, by rw [e, z2]⟩
theorem Turn.neg (t : Turn h xs ss h' ss' f g r) {i j i' j' : Nat} (e : ∀ x, f x j' - f x i' = -(x j - x i)) (e' : ∀ x, g x j - g x i = -(x j' - x i')) {lo hi : Int}
    (hx : Ext (Tru h.sLo h.sHi (tellsOf xs h.eLo h.eHi ss)) i j lo hi) : Ext (Tru h'.sLo h'.sHi (tellsOf xs h'.eLo h'.eHi ss')) i' j' (-hi) (-lo) := by
  obtain ⟨h1, ⟨x, x1, x2⟩, z, z1, z2⟩ := hx
  exact ⟨fun y hy => by have := h1 _ (t.tru' hy); rw [e'] at this; omega, ⟨f z, t.tru z1, by rw [e, z2]⟩, f x, t.tru x1, by rw [e, x2]⟩
theorem Turn.sum (t : Turn h xs ss h' ss' f g r) : sumA h' xs ss' = sumA h xs ss := by
  by_cases hx : ∃ x, Tru h.sLo h.sHi (tellsOf xs h.eLo h.eHi ss) x
  · obtain ⟨lo, hi, e1, x1⟩ := sum_ok t.hv hx
    obtain ⟨lo', hi', e2, x2⟩ := sum_ok t.hv' (t.ex.1 hx)
    obtain ⟨rfl, rfl⟩ := (t.ext (fun x => t.sf x) (fun x => t.sg x) x1).unique x2
    rw [e1, e2]
  · rw [sum_clash t.hv hx, sum_clash t.hv' (fun h => hx (t.ex.2 h))]
theorem Turn.can (t : Turn h xs ss h' ss' f g r) {set set' : Int} (hs : ∀ k, k < ss.length → hasB set' (r k) = hasB set k) : canB h' xs ss' set' = canB h xs ss set := by
  rw [Bool.eq_iff_iff, canB_iff t.hv', canB_iff t.hv]
  exact ⟨fun ⟨x, hx⟩ => ⟨g x, t.back hs hx⟩, fun ⟨x, hx⟩ => ⟨f x, t.tells hs hx⟩⟩
theorem Turn.all (t : Turn h xs ss h' ss' f g r) : canB h' xs ss' (allS ss') = canB h xs ss (allS ss) := by
  have e : ∀ k, k < ss.length → hasB (allS ss) k = true := fun k hk => by
    have hn := (valid_has t.hv).2.2.2.2.2.1
    have h : ∀ n : Fin 13, ∀ k : Fin 12, k.val < n.val → hasB (2 ^ n.val - 1) k.val = true := by decide +kernel
    exact h ⟨ss.length, by omega⟩ ⟨k, by omega⟩ hk
  have e2 : allS ss' = allS ss := by unfold allS; rw [t.len]
  rw [e2]
  exact t.can fun k hk => by rw [e _ (t.rl k hk), e k hk]
/-- The settings that tell nothing. -/
theorem Turn.idle (t : Turn h xs ss h' ss' f g r) (hx : ∃ x, Tru h.sLo h.sHi (tellsOf xs h.eLo h.eHi ss) x) {k : Nat} (hk : k < ss.length) :
    hasB (idleS h'.sLo h'.sHi (tellsOf xs h'.eLo h'.eHi ss') ss'.length) (r k) = hasB (idleS h.sLo h.sHi (tellsOf xs h.eLo h.eHi ss) ss.length) k := by
  obtain ⟨va, vb, vc, vd, ve, vf, vg⟩ := valid_has t.hv
  obtain ⟨va', vb', vc', vd', ve', vf', vg'⟩ := valid_has t.hv'
  have hr := t.rl k hk
  have hl : (tellsOf xs h.eLo h.eHi ss).length = ss.length := len_tells h xs ss
  have hl' : (tellsOf xs h'.eLo h'.eHi ss').length = ss'.length := len_tells h' xs ss'
  rw [idle_bit _ _ _ _ vf' _ (by rw [t.len]; exact hr), idle_bit _ _ _ _ vf _ hk, Bool.eq_iff_iff]
  have hset : ∀ j, j < ss.length → hasB (allO (tellsOf xs h'.eLo h'.eHi ss').length (r k)) (r j) = hasB (allO (tellsOf xs h.eLo h.eHi ss).length k) j := fun j hj => by
    rw [hl, hl', t.len, hasB_O vf hr (t.rl j hj), hasB_O vf hk hj]
    rw [Bool.eq_iff_iff, bne_iff_ne, bne_iff_ne]
    exact ⟨fun h e => h (by rw [e]), fun h e => h (by rw [← t.rr j hj, e, t.rr k hk])⟩
  have hex : ∃ x, TellsB h.sLo h.sHi (tellsOf xs h.eLo h.eHi ss) (allO (tellsOf xs h.eLo h.eHi ss).length k) x := by
    obtain ⟨x, hx⟩ := hx
    rw [tru_get] at hx
    exact ⟨x, hx.1, fun j hj _ => hx.2 j hj⟩
  have hex' : ∃ x, TellsB h'.sLo h'.sHi (tellsOf xs h'.eLo h'.eHi ss') (allO (tellsOf xs h'.eLo h'.eHi ss').length (r k)) x := by
    obtain ⟨x, hx⟩ := hex
    exact ⟨_, t.tells hset hx⟩
  rw [tell_says (fair_of t.hv') (by omega) (by omega) (by rw [hl', t.len]; exact hr) hex', tell_says (fair_of t.hv) (by omega) (by omega) (by omega) hex]
  constructor
  · intro h1 x hx
    exact (t.kf k hk x).2 (h1 _ (t.tells hset hx))
  · intro h1 x hx
    exact (t.kg k hk x).2 (h1 _ (t.back hset hx))
/-- A number is its bits. -/
theorem bits_same {a b n : Nat} (ha : a < 2 ^ n) (hb : b < 2 ^ n) (h : ∀ k, k < n → hasB (a : Int) k = hasB (b : Int) k) : a = b := by
  apply Nat.eq_of_testBit_eq
  intro k
  by_cases hk : k < n
  · have := h k hk
    rwa [hasB_test, hasB_test] at this
  · rw [Nat.testBit_lt_two_pow (Nat.lt_of_lt_of_le ha (Nat.pow_le_pow_right (by decide) (by omega))), Nat.testBit_lt_two_pow (Nat.lt_of_lt_of_le hb (Nat.pow_le_pow_right (by decide) (by omega)))]
/-- What clashes, if the settings keep their numbers. -/
theorem Turn.clash (t : Turn h xs ss h' ss' f g r) (hid : ∀ k, k < ss.length → r k = k) : clashR h' xs ss' = clashR h xs ss := by
  cases hc : canB h xs ss (allS ss)
  · have hc' : canB h' xs ss' (allS ss') = false := by rw [t.all, hc]
    obtain ⟨q, e1, _, e2, e3, e4⟩ := clash_best t.hv hc
    obtain ⟨q', e1', _, e2', e3', e4'⟩ := clash_best t.hv' hc'
    rw [t.len] at e2' e4'
    have hs : ∀ y : Int, canB h' xs ss' y = canB h xs ss y := fun y => t.can fun k hk => by rw [hid k hk]
    rw [hs] at e3'
    have a := e4 q' e2' e3'
    have b := e4' q e2 (by rw [hs]; exact e3)
    rw [e1, e1']
    omega
  · rw [clash_zero t.hv hc, clash_zero t.hv' (by rw [t.all, hc])]
/-- The other order of n settings. -/
def backN (n s : Nat) : Nat → Nat
  | 0 => 0
  | i + 1 => if s.testBit i then backN n s i ||| 2 ^ (n - 1 - i) else backN n s i
theorem backN_bit (n s : Nat) : ∀ i, i ≤ n → ∀ j, j < n → (backN n s i).testBit j = (decide (n - 1 - j < i) && s.testBit (n - 1 - j))
  | 0, _, j, _ => by simp [backN]
  | i + 1, hi, j, hj => by
    have ih := backN_bit n s i (by omega) j hj
    rw [backN]
    by_cases e : n - 1 - j = i
    · have e2 : n - 1 - i = j := by omega
      cases hb : s.testBit i
      · simp [ih, e, hb]
      · rw [if_pos rfl, Nat.testBit_or, e2, Nat.testBit_two_pow_self, e, hb]; simp
    · have e2 : n - 1 - i ≠ j := by omega
      have e3 : decide (n - 1 - j < i + 1) = decide (n - 1 - j < i) := by rw [decide_eq_decide]; omega
      cases hb : s.testBit i
      · rw [if_neg (by decide), ih, e3]
      · rw [if_pos rfl, Nat.testBit_or, Nat.testBit_two_pow_of_ne e2, Bool.or_false, ih, e3]
theorem backN_lt (n s : Nat) : ∀ i, i ≤ n → backN n s i < 2 ^ n
  | 0, _ => by simp [backN]; exact Nat.two_pow_pos n
  | i + 1, hi => by
    have ih := backN_lt n s i (by omega)
    rw [backN]
    split
    · exact Nat.or_lt_two_pow ih (Nat.pow_lt_pow_right (by decide) (by omega))
    · exact ih
theorem backN_has {n s : Nat} {j : Nat} (hj : j < n) : hasB (backN n s n : Int) (n - 1 - j) = hasB (s : Int) j := by
  rw [hasB_test, hasB_test, backN_bit n s n (Nat.le_refl _) _ (by omega)]
  have : n - 1 - (n - 1 - j) = j := by omega
  rw [this, decide_eq_true hj, Bool.true_and]
theorem fold_count (x : Nat) : ∀ (l : List Nat) (s : Int), l.foldl (fun s k => s + (x : Int) / 2 ^ k % 2) s = s + ((l.countP fun k => hasB (x : Int) k : Nat) : Int)
  | [], s => by simp
  | k :: l, s => by
    rw [List.foldl_cons, fold_count x l, List.countP_cons]
    have hm : (x : Int) / 2 ^ k % 2 = 0 ∨ (x : Int) / 2 ^ k % 2 = 1 := by omega
    have hb : hasB (x : Int) k = ((x : Int) / 2 ^ k % 2 == 1) := rfl
    rw [hb]
    rcases hm with h | h <;> rw [h] <;> simp <;> omega
theorem popc_count {n x : Nat} (hn : n ≤ 12) (hx : x < 2 ^ n) : popc (x : Int) = (((List.range n).countP fun k => hasB (x : Int) k : Nat) : Int) := by
  unfold popc
  rw [fold_count, Int.zero_add]
  congr 1
  have e : List.range 12 = List.range n ++ (List.range (12 - n)).map (n + ·) := by
    rw [← List.range_add]
    congr 1
    omega
  rw [e, List.countP_append]
  have h0 : ((List.range (12 - n)).map (n + ·)).countP (fun k => hasB (x : Int) k) = 0 := by
    rw [List.countP_eq_zero]
    intro k hk
    obtain ⟨j, _, rfl⟩ := List.mem_map.1 hk
    rw [hasB_test, Nat.testBit_lt_two_pow (Nat.lt_of_lt_of_le hx (Nat.pow_le_pow_right (by decide) (by omega)))]
    decide
  rw [h0, Nat.add_zero]
theorem backN_popc {n s : Nat} (hn : n ≤ 12) (hs : s < 2 ^ n) : popc (backN n s n : Int) = popc (s : Int) := by
  rw [popc_count hn (backN_lt n s n (Nat.le_refl _)), popc_count hn hs]
  congr 1
  have e : (List.range n).reverse = (List.range n).map (fun k => n - 1 - k) := by
    apply List.ext_getElem
    · simp
    · intro i h1 h2
      simp
  calc (List.range n).countP (fun k => hasB (backN n s n : Int) k) = (List.range n).reverse.countP (fun k => hasB (backN n s n : Int) k) := (List.countP_reverse).symm
    _ = (List.range n).countP (fun k => hasB (backN n s n : Int) (n - 1 - k)) := by rw [e, List.countP_map]; rfl
    _ = _ := List.countP_congr fun k hk => by rw [backN_has (List.mem_range.1 hk)]
/-- What clashes, and what must be wrong, in the other order: as many. -/
theorem Turn.clash_size (t : Turn h xs ss h' ss' f g r) (hr : ∀ k, k < ss.length → r k = ss.length - 1 - k) : popc (clashR h' xs ss') = popc (clashR h xs ss) := by
  obtain ⟨va, vb, vc, vd, ve, vf, vg⟩ := valid_has t.hv
  have hs : ∀ y : Nat, canB h' xs ss' (backN ss.length y ss.length : Int) = canB h xs ss y := fun y => t.can fun k hk => by rw [hr k hk, backN_has hk]
  have hs' : ∀ y : Nat, canB h xs ss (backN ss.length y ss.length : Int) = canB h' xs ss' y := fun y => (t.can fun k hk => by
    rw [hr k hk, ← backN_has (s := y) (show ss.length - 1 - k < ss.length by omega)]
    have : ss.length - 1 - (ss.length - 1 - k) = k := by omega
    rw [this]).symm
  cases hc : canB h xs ss (allS ss)
  · have hc' : canB h' xs ss' (allS ss') = false := by rw [t.all, hc]
    obtain ⟨q, e1, _, e2, e3, e4⟩ := clash_best t.hv hc
    obtain ⟨q', e1', _, e2', e3', e4'⟩ := clash_best t.hv' hc'
    rw [t.len] at e2' e4'
    have a := e4 _ (backN_lt ss.length q' _ (Nat.le_refl _)) (by rw [hs']; exact e3')
    have b := e4' _ (backN_lt ss.length q _ (Nat.le_refl _)) (by rw [hs]; exact e3)
    rw [backN_popc vf e2'] at a
    rw [backN_popc vf e2] at b
    rw [e1, e1']
    omega
  · rw [clash_zero t.hv hc, clash_zero t.hv' (by rw [t.all, hc])]
theorem Turn.drop_size (t : Turn h xs ss h' ss' f g r) (hr : ∀ k, k < ss.length → r k = ss.length - 1 - k) : popc (dropR h' xs ss') = popc (dropR h xs ss) := by
  obtain ⟨va, vb, vc, vd, ve, vf, vg⟩ := valid_has t.hv
  obtain ⟨p1, p2, p3⟩ := pow_12 vf
  have hcm : ∀ y : Nat, y < 2 ^ ss.length → (2 : Int) ^ ss.length - 1 - (y : Int) = ((2 ^ ss.length - (y + 1) : Nat) : Int) := fun y hy => by omega
  have hb : ∀ y : Nat, y < 2 ^ ss.length → ∀ k, k < ss.length → hasB ((2 : Int) ^ ss.length - 1 - (y : Int)) k = !hasB (y : Int) k := fun y hy k hk => by
    rw [hcm y hy, hasB_test, hasB_test, Nat.testBit_two_pow_sub_succ hy, decide_eq_true hk, Bool.true_and]
  have hs : ∀ y : Nat, y < 2 ^ ss.length → canB h' xs ss' (2 ^ ss.length - 1 - (backN ss.length y ss.length : Int)) = canB h xs ss (2 ^ ss.length - 1 - (y : Int)) := fun y hy => t.can fun k hk => by
    rw [hr k hk, hb _ (backN_lt ss.length y _ (Nat.le_refl _)) _ (by omega), hb y hy k hk, backN_has hk]
  have hs' : ∀ y : Nat, y < 2 ^ ss.length → canB h xs ss (2 ^ ss.length - 1 - (backN ss.length y ss.length : Int)) = canB h' xs ss' (2 ^ ss.length - 1 - (y : Int)) := fun y hy => (t.can fun k hk => by
    rw [hr k hk, hb _ (backN_lt ss.length y _ (Nat.le_refl _)) _ hk, hb y hy _ (by omega), ← backN_has (s := y) (show ss.length - 1 - k < ss.length by omega)]
    have : ss.length - 1 - (ss.length - 1 - k) = k := by omega
    rw [this]).symm
  obtain ⟨q, e1, e2, e3, e4⟩ := drop_best t.hv
  obtain ⟨q', e1', e2', e3', e4'⟩ := drop_best t.hv'
  rw [t.len] at e2' e3' e4'
  have a := e4 _ (backN_lt ss.length q' _ (Nat.le_refl _)) (by rw [hs' _ e2']; exact e3')
  have b := e4' _ (backN_lt ss.length q _ (Nat.le_refl _)) (by rw [hs _ e2]; exact e3)
  rw [backN_popc vf e2'] at a
  rw [backN_popc vf e2] at b
  rw [e1, e1']
  omega
end
end Go.Proofs.Ytmfbkgdlfackcaa

namespace Go.Proofs.Ytmfbkgdlfackcaa
open Fw Go.RowKit

section
variable {h h' : Hd} {xs : List (Int × Int)} {ss ss' : List Sett} {f g : (Nat → Int) → Nat → Int} {r : Nat → Nat}
theorem Turn.place (t : Turn h xs ss h' ss' f g r) {a a' : Int} (ha : isImg h.images a = true) (ha' : isImg h'.images a' = true) (hc : hasC a' (cntsOf ss') = hasC a (cntsOf ss))
    (e : ∀ x, f x (2 + a'.toNat) - f x 0 = x (2 + a.toNat) - x 0) (e' : ∀ x, g x (2 + a.toNat) - g x 0 = x (2 + a'.toNat) - x 0) : placeA h' xs ss' a' = placeA h xs ss a := by
  by_cases hx : ∃ x, Tru h.sLo h.sHi (tellsOf xs h.eLo h.eHi ss) x
  · have hx' := t.ex.1 hx
    cases hd : hasC a (cntsOf ss)
    · rw [place_doubt t.hv ha hx hd, place_doubt t.hv' ha' hx' (by rw [hc, hd])]
    · obtain ⟨lo, hi, e1, x1⟩ := place_ok t.hv ha hx hd
      obtain ⟨lo', hi', e2, x2⟩ := place_ok t.hv' ha' hx' (by rw [hc, hd])
      obtain ⟨rfl, rfl⟩ := (t.ext e e' x1).unique x2
      rw [e1, e2]
  · rw [place_clash t.hv ha hx, place_clash t.hv' ha' (fun h => hx (t.ex.2 h))]
theorem Turn.apart (t : Turn h xs ss h' ss' f g r) {a b a' b' : Int} (ha : isImg h.images a = true) (hb : isImg h.images b = true) (ha' : isImg h'.images a' = true) (hb' : isImg h'.images b' = true)
    (hca : hasC a' (cntsOf ss') = hasC a (cntsOf ss)) (hcb : hasC b' (cntsOf ss') = hasC b (cntsOf ss)) (hab : a' = b' ↔ a = b)
    (e : ∀ x, f x (2 + b'.toNat) - f x (2 + a'.toNat) = x (2 + b.toNat) - x (2 + a.toNat)) (e' : ∀ x, g x (2 + b.toNat) - g x (2 + a.toNat) = x (2 + b'.toNat) - x (2 + a'.toNat)) :
    apartA h' xs ss' a' b' = apartA h xs ss a b := by
  by_cases hx : ∃ x, Tru h.sLo h.sHi (tellsOf xs h.eLo h.eHi ss) x
  · have hx' := t.ex.1 hx
    by_cases hd : a = b ∨ (hasC a (cntsOf ss) = true ∧ hasC b (cntsOf ss) = true)
    · obtain ⟨lo, hi, e1, x1⟩ := apart_ok t.hv ha hb hx hd
      obtain ⟨lo', hi', e2, x2⟩ := apart_ok t.hv' ha' hb' hx' (by rw [hab, hca, hcb]; exact hd)
      obtain ⟨rfl, rfl⟩ := (t.ext e e' x1).unique x2
      rw [e1, e2]
    · rw [apart_doubt t.hv ha hb hx (fun h => hd (.inl h)) (fun h => hd (.inr h)), apart_doubt t.hv' ha' hb' hx' (fun h => hd (.inl (hab.1 h))) (fun h => hd (.inr (by rw [hca, hcb] at h; exact h)))]
  · rw [apart_clash t.hv ha hb hx, apart_clash t.hv' ha' hb' (fun h => hx (t.ex.2 h))]
/-- How far images are apart, on a plate the other way round. -/
theorem Turn.apart_neg (t : Turn h xs ss h' ss' f g r) {a b : Int} (ha : isImg h.images a = true) (hb : isImg h.images b = true)
    (hca : ∀ i, hasC i (cntsOf ss') = hasC i (cntsOf ss))
    (e : ∀ x, f x (2 + b.toNat) - f x (2 + a.toNat) = -(x (2 + b.toNat) - x (2 + a.toNat))) (e' : ∀ x, g x (2 + b.toNat) - g x (2 + a.toNat) = -(x (2 + b.toNat) - x (2 + a.toNat))) {v1 v2 w : Int}
    (q : reply (apartA h xs ss a b) = .tuple #[.agg #[.int .i64 v1, .int .i64 v2], .int .i64 w]) :
    reply (apartA h' xs ss' a b) = .tuple #[.agg #[.int .i64 (-v2), .int .i64 (-v1)], .int .i64 w] := by
  have ha' : isImg h'.images a = true := by rw [t.im]; exact ha
  have hb' : isImg h'.images b = true := by rw [t.im]; exact hb
  have hz : ∀ c : Int, reply (.error c) = .tuple #[.agg #[.int .i64 v1, .int .i64 v2], .int .i64 w] → reply (.error c) = .tuple #[.agg #[.int .i64 (-v2), .int .i64 (-v1)], .int .i64 w] := fun c hc => by
    have hc' : (Value.tuple #[.agg #[.int .i64 0, .int .i64 0], .int .i64 c]) = .tuple #[.agg #[.int .i64 v1, .int .i64 v2], .int .i64 w] := hc
    simp at hc'
    obtain ⟨⟨rfl, rfl⟩, rfl⟩ := hc'
    rfl
  by_cases hx : ∃ x, Tru h.sLo h.sHi (tellsOf xs h.eLo h.eHi ss) x
  · have hx' := t.ex.1 hx
    by_cases hd : a = b ∨ (hasC a (cntsOf ss) = true ∧ hasC b (cntsOf ss) = true)
    · obtain ⟨lo, hi, e1, x1⟩ := apart_ok t.hv ha hb hx hd
      obtain ⟨lo', hi', e2, x2⟩ := apart_ok t.hv' ha' hb' hx' (by rw [hca, hca]; exact hd)
      obtain ⟨rfl, rfl⟩ := (t.neg e e' x1).unique x2
      rw [e1] at q
      have q' : (Value.tuple #[.agg #[.int .i64 lo, .int .i64 hi], .int .i64 0]) = .tuple #[.agg #[.int .i64 v1, .int .i64 v2], .int .i64 w] := q
      simp at q'
      obtain ⟨⟨rfl, rfl⟩, rfl⟩ := q'
      rw [e2]; rfl
    · rw [apart_doubt t.hv ha hb hx (fun h => hd (.inl h)) (fun h => hd (.inr h))] at q
      rw [apart_doubt t.hv' ha' hb' hx' (fun h => hd (.inl h)) (fun h => hd (.inr (by rw [hca, hca] at h; exact h)))]
      exact hz 12 q
  · rw [apart_clash t.hv ha hb hx] at q
    rw [apart_clash t.hv' ha' hb' (fun h => hx (t.ex.2 h))]
    exact hz 10 q
/-- The plate lies the other way round. -/
def flipS (ss : List Sett) : List Sett := ss.map fun s => (s.1, s.2.1, !s.2.2)
def flipX (x : Nat → Int) : Nat → Int := fun i => if i = 0 then -x 1 else if i = 1 then -x 0 else -x i
theorem flip_has (i : Int) (ss : List Sett) : hasC i (cntsOf (flipS ss)) = hasC i (cntsOf ss) := by
  rw [hasC_cnts, hasC_cnts]
  unfold flipS
  rw [List.any_map]; rfl
theorem flip_once (ss : List Sett) : ∀ n, onceE (flipS ss) n = onceE ss n
  | 0 => rfl
  | n + 1 => by
    rw [onceE, onceE, flip_once ss n]
    have e1 : (flipS ss).any (upB n) = ss.any (rvB n) := by
      unfold flipS
      rw [List.any_map]
      exact congrArg (ss.any ·) (funext fun s => by simp [upB, rvB])
    have e2 : (flipS ss).any (rvB n) = ss.any (upB n) := by
      unfold flipS
      rw [List.any_map]
      exact congrArg (ss.any ·) (funext fun s => by simp [upB, rvB])
    rw [e1, e2]
    cases ss.any (rvB n) <;> cases ss.any (upB n) <;> rfl
theorem keeps_flip (t : Tell) (x : Nat → Int) : Keeps t x ↔ Keeps (!t.1, t.2) (flipX x) := by
  obtain ⟨b, i, l, u⟩ := t
  cases b <;> simp [Keeps, flipX] <;> omega
theorem keeps_unflip (t : Tell) (x : Nat → Int) : Keeps (!t.1, t.2) x ↔ Keeps t (flipX x) := by
  have := keeps_flip (!t.1, t.2) x
  simpa using this
theorem flip_turn (hv : validH h xs ss = true) (sa : Option Addr) (n cap : Nat) : Turn h xs ss (partH h sa n cap) (flipS ss) flipX flipX id := by
  have hg : ∀ k, k < ss.length → (tellsOf xs h.eLo h.eHi (flipS ss)).getD k dfl = (!((tellsOf xs h.eLo h.eHi ss).getD k dfl).1, ((tellsOf xs h.eLo h.eHi ss).getD k dfl).2) := fun k hk => by
    rw [tells_get (by simpa [flipS] using hk), tells_get hk]
    have : (flipS ss).getD k (0, 0, false) = ((ss.getD k (0, 0, false)).1, (ss.getD k (0, 0, false)).2.1, !(ss.getD k (0, 0, false)).2.2) := by simp [flipS, List.getD, hk]
    rw [this]; rfl
  refine ⟨hv, ?_, rfl, rfl, rfl, by simp [flipS], fun x => by simp [flipX]; omega, fun x => by simp [flipX]; omega, fun k hk => hk, fun k _ => rfl, fun k hk x => ?_, fun k hk x => ?_⟩
  · simp only [validH, validM, headB, validB, holdB, setsB, flipS, partH, List.all_map, List.length_map] at hv ⊢
    exact hv
  · show _ ↔ Keeps ((tellsOf xs h.eLo h.eHi (flipS ss)).getD k dfl) (flipX x)
    rw [hg k hk]; exact keeps_flip _ x
  · show Keeps ((tellsOf xs h.eLo h.eHi (flipS ss)).getD k dfl) x ↔ _
    rw [hg k hk]; exact keeps_unflip _ x
/-- Settings in the other order, images with other numbers. -/
def numI (N u i : Int) : Int := (i + u) % N
def invI (N u i : Int) : Int := (i + (N - u % N)) % N
def yS (N u : Int) (ss : List Sett) : List Sett := ss.reverse.map fun s => (numI N u s.1, s.2.1, s.2.2)
theorem numI_rng {N u i : Int} (hN : 1 ≤ N ∧ N ≤ 6) : 0 ≤ numI N u i ∧ numI N u i < N := ⟨Int.emod_nonneg _ (by omega), Int.emod_lt_of_pos _ (by omega)⟩
theorem inv_num {N u i : Int} (hN : 1 ≤ N ∧ N ≤ 6) (hi : 0 ≤ i ∧ i < N) : invI N u (numI N u i) = i := by
  unfold invI numI
  have h : N = 1 ∨ N = 2 ∨ N = 3 ∨ N = 4 ∨ N = 5 ∨ N = 6 := by omega
  rcases h with rfl | rfl | rfl | rfl | rfl | rfl <;> omega
theorem num_inj {N u i j : Int} (hN : 1 ≤ N ∧ N ≤ 6) (hi : 0 ≤ i ∧ i < N) (hj : 0 ≤ j ∧ j < N) : numI N u i = numI N u j ↔ i = j :=
  ⟨fun h => by rw [← inv_num (u := u) hN hi, h, inv_num hN hj], fun h => by rw [h]⟩
def yF (N u : Int) (x : Nat → Int) : Nat → Int := fun k => if k < 2 then x k else x (2 + (invI N u ((k : Int) - 2)).toNat)
def yG (N u : Int) (x : Nat → Int) : Nat → Int := fun k => if k < 2 then x k else x (2 + (numI N u ((k : Int) - 2)).toNat)
theorem yF_at {N u : Int} (hN : 1 ≤ N ∧ N ≤ 6) {i : Int} (hi : 0 ≤ i ∧ i < N) (x : Nat → Int) : yF N u x (2 + (numI N u i).toNat) = x (2 + i.toNat) := by
  have h1 := numI_rng (u := u) (i := i) hN
  unfold yF
  rw [if_neg (by omega)]
  have e : ((2 + (numI N u i).toNat : Nat) : Int) - 2 = numI N u i := by omega
  rw [e, inv_num hN hi]
theorem yG_at {N u : Int} {i : Int} (hi : 0 ≤ i) (x : Nat → Int) : yG N u x (2 + i.toNat) = x (2 + (numI N u i).toNat) := by
  unfold yG
  rw [if_neg (by omega)]
  have e : ((2 + i.toNat : Nat) : Int) - 2 = i := by omega
  rw [e]
theorem yS_get {N u : Int} {k : Nat} (hk : k < ss.length) : (yS N u ss).getD (ss.length - 1 - k) (0, 0, false) = (numI N u (ss.getD k (0, 0, false)).1, (ss.getD k (0, 0, false)).2.1, (ss.getD k (0, 0, false)).2.2) := by
  have h1 : ss.length - 1 - k < ss.length := by omega
  have h2 : ss.length - 1 - (ss.length - 1 - k) = k := by omega
  simp [yS, List.getD, h1, h2, hk]
theorem y_turn (hv : validH h xs ss = true) (u : Int) (sa : Option Addr) (n cap : Nat) : Turn h xs ss (partH h sa n cap) (yS h.images u ss) (yF h.images u) (yG h.images u) (fun k => ss.length - 1 - k) := by
  obtain ⟨va, vb, vc, vd, ve, vf, vg⟩ := valid_has hv
  have hlen : (yS h.images u ss).length = ss.length := by simp [yS]
  have hin : ∀ k, k < ss.length → 0 ≤ (ss.getD k (0, 0, false)).1 ∧ (ss.getD k (0, 0, false)).1 < h.images := fun k hk => (vg _ (by simp [List.getD, hk])).1
  have hg : ∀ k, k < ss.length → (tellsOf xs h.eLo h.eHi (yS h.images u ss)).getD (ss.length - 1 - k) dfl = tellOf xs h.eLo h.eHi (numI h.images u (ss.getD k (0, 0, false)).1, (ss.getD k (0, 0, false)).2.1, (ss.getD k (0, 0, false)).2.2) := fun k hk => by
    rw [tells_get (by rw [hlen]; omega), yS_get hk]
  refine ⟨hv, ?_, rfl, rfl, rfl, hlen, fun x => by simp [yF], fun x => by simp [yG], fun k hk => by omega, fun k hk => by omega, fun k hk x => ?_, fun k hk x => ?_⟩
  · refine valid_iff.2 ⟨va, vb, vc, vd, ve, by rw [hlen]; exact vf, fun s hs => ?_⟩
    obtain ⟨s', hs', rfl⟩ := List.mem_map.1 hs
    have := vg s' (List.mem_reverse.1 hs')
    exact ⟨numI_rng vd, this.2⟩
  · show _ ↔ Keeps ((tellsOf xs h.eLo h.eHi (yS h.images u ss)).getD (ss.length - 1 - k) dfl) (yF h.images u x)
    rw [hg k hk, tells_get hk]
    unfold Keeps tellOf
    dsimp only
    rw [yF_at vd (hin k hk)]
    have e0 : yF h.images u x 0 = x 0 := rfl
    have e1 : yF h.images u x 1 = x 1 := rfl
    rw [e0, e1]
  · show Keeps ((tellsOf xs h.eLo h.eHi (yS h.images u ss)).getD (ss.length - 1 - k) dfl) x ↔ _
    rw [hg k hk, tells_get hk]
    unfold Keeps tellOf
    dsimp only
    rw [yG_at (hin k hk).1]
    have e0 : yG h.images u x 0 = x 0 := rfl
    have e1 : yG h.images u x 1 = x 1 := rfl
    rw [e0, e1]
theorem y_has {N u : Int} (hN : 1 ≤ N ∧ N ≤ 6) {i : Int} (hi : 0 ≤ i ∧ i < N) (hs : ∀ s ∈ ss, 0 ≤ s.1 ∧ s.1 < N) : hasC (numI N u i) (cntsOf (yS N u ss)) = hasC i (cntsOf ss) := by
  rw [hasC_cnts, hasC_cnts, Bool.eq_iff_iff, List.any_eq_true, List.any_eq_true]
  constructor
  · intro ⟨s, h1, h2⟩
    obtain ⟨s', h3, rfl⟩ := List.mem_map.1 h1
    have h3 := List.mem_reverse.1 h3
    exact ⟨s', h3, by simpa using (num_inj hN hi (hs s' h3)).1 (by simpa using h2)⟩
  · intro ⟨s, h1, h2⟩
    refine ⟨_, List.mem_map.2 ⟨s, List.mem_reverse.2 h1, rfl⟩, ?_⟩
    have : i = s.1 := by simpa using h2
    simp [this]
end
end Go.Proofs.Ytmfbkgdlfackcaa

namespace Go.Proofs.Ytmfbkgdlfackcaa
open Fw Go.RowKit

theorem num44_any (B T : Nat) (i u N : Int) (w : World) (hT : w.cell? ⟨T, 0, none⟩ = some (.int .u8 u)) (hB : w.cell? ⟨B, 3, none⟩ = some (.int .i64 N)) (hi : 0 ≤ i ∧ i < 6) (hu : 0 ≤ u ∧ u ≤ 255) (hN : 1 ≤ N ∧ N ≤ 6) :
    Calls Try.prog 44 #[.int .i64 i, .pointer (some ⟨T, 0, none⟩), .pointer (some ⟨B, 0, none⟩)] w (Ret (.int .i64 (numI N u i)) w) := by
  have he : Hid (numI N u i = (i + u) % N) := rfl
  generalize numI N u i = q at *
  obtain ⟨hi0, hi1⟩ := hi
  obtain ⟨hu0, hu1⟩ := hu
  obtain ⟨hN0, hN1⟩ := hN
  have hn0 : ¬ N = 0 := by omega
  go_enter Try.func44, Try.ntmps44
  go_wp2
  go_ret
  exact ⟨by rw [he.out]; rfl, Below.refl _ _⟩
theorem or_nat {a b : Nat} (ha : a < 4096) (hb : b < 4096) : bits .or .i64 (a : Int) (b : Int) = ((a ||| b : Nat) : Int) := by
  unfold bits
  dsimp only
  have h : a ||| b < 2 ^ 12 := Nat.or_lt_two_pow (n := 12) ha hb
  rw [BitVec.toNat_or, bv_nat (by omega), bv_nat (by omega), i64_of_nat (by omega)]
set_option maxRecDepth 100000 in
set_option maxHeartbeats 4000000 in
theorem back45_any (T n : Nat) (s : Nat) (w : World) (hT : w.cell? ⟨T, 0, none⟩ = some (.int .i64 n)) (hn : n ≤ 12) (hs : s < 2 ^ n) :
    Calls Try.prog 45 #[.int .i64 s, .pointer (some ⟨T, 0, none⟩)] w (Ret (.int .i64 (backN n s n)) w) := by
  have hs2 : s < 4096 := Nat.lt_of_lt_of_le hs (pow_12 hn).2.1
  have hn0 : (n : Int) ≤ 12 := by omega
  have HT := Lib.hid hT
  have HST : Hid (∀ k, k < n → bits .or .i64 (backN n s k : Int) (IntKind.i64.wrap (bits .and .i64 ((s : Int) / 2 ^ k) 1 * 2 ^ (n - 1 - k))) = (backN n s (k + 1) : Int)) := fun k hk => by
    have h1 := backN_lt n s k (by omega)
    have hp := pow_12 hn
    have e : (s : Int) / 2 ^ k = ((s / 2 ^ k : Nat) : Int) := by simp
    have hle : s / 2 ^ k ≤ s := Nat.div_le_self _ _
    rw [and_one (by rw [e]; generalize s / 2 ^ k = z at *; omega)]
    have hb : hasB (s : Int) k = ((s : Int) / 2 ^ k % 2 == 1) := rfl
    rw [hasB_test] at hb
    have hpk : 2 ^ (n - 1 - k) < 4096 := Nat.lt_of_lt_of_le (Nat.pow_lt_pow_right (by decide) (show n - 1 - k < 12 by omega)) (by decide)
    have hm : (s : Int) / 2 ^ k % 2 = 0 ∨ (s : Int) / 2 ^ k % 2 = 1 := by omega
    rw [backN]
    rcases hm with h | h <;> rw [h] at hb ⊢
    · have hb2 : s.testBit k = false := by simpa using hb
      rw [hb2, Int.zero_mul]
      have e0 : IntKind.i64.wrap 0 = ((0 : Nat) : Int) := by decide
      rw [e0, or_nat (by omega) (by omega)]
      simp
    · have hb2 : s.testBit k = true := by simpa using hb
      rw [hb2, Int.one_mul, if_pos rfl]
      have e0 : IntKind.i64.wrap ((2 : Int) ^ (n - 1 - k)) = ((2 ^ (n - 1 - k) : Nat) : Int) := by
        have e1 : (2 : Int) ^ (n - 1 - k) = ((2 ^ (n - 1 - k) : Nat) : Int) := by simp
        rw [e1]
        exact IntWalk.i64_in _ (by generalize 2 ^ (n - 1 - k) = z at *; omega)
      rw [e0, or_nat (by omega) hpk]
  clear hT hs
  go_enter Try.func45, Try.ntmps45
  have ht := HT.out
  go_wp2_with fail
  clear ht
  go_loopw [3, 6] (fun o i wr => ∃ k : Nat, k ≤ n ∧ i = .int .i64 k ∧ o = .int .i64 (backN n s k) ∧ Below w.heap.size w wr) (fun _ i _ => n - (intOf i).toNat)
  case atStart => exact ⟨0, by omega, rfl, rfl, Below.refl _ _⟩
  case round =>
    obtain ⟨k, hk, rfl, rfl, hB⟩ := hrel
    have hk0 : (0 : Int) ≤ (k : Int) := by omega
    have hlw := World.block_lt_of_cell? _ _ HT.out
    have ht := (hB.cell (p := ⟨T, 0, none⟩) hlw).trans HT.out
    by_cases hlt : k < n
    · have hst := HST.out k hlt
      have e1 : ((n : Int) - 1 - (k : Int)) = ((n - 1 - k : Nat) : Int) := by omega
      generalize backN n s k = bk at *
      have e2 : IntKind.i64.wrap ((n : Int) - 1) = ((n - 1 : Nat) : Int) := by rw [IntWalk.i64_in _ (by omega)]; omega
      have e3 : IntKind.i64.wrap (((n - 1 : Nat) : Int) - (k : Int)) = ((n - 1 - k : Nat) : Int) := by rw [IntWalk.i64_in _ (by omega)]; omega
      have hm0 : (0 : Int) ≤ ((n - 1 - k : Nat) : Int) := by omega
      have hm1 : ((n - 1 - k : Nat) : Int) ≤ 64 := by omega
      clear e1
      go_upto_region 4 with fail
      refine wp_region_seq [(0, true), (1, true), (2, true), (3, true), (4, true), (5, true), (6, true), (7, true), (8, true), (9, true), (10, true), (11, true)] (fun w' => w'.cell? ⟨T, 0, none⟩ = some (.int .i64 n)) (by kernel_rfl) (by kernel_rfl) (fun _ _ d _ _ h => by cases d <;> exact h) ht ?_
      repeat (first | (refine seq_read rfl (by rfl) _ (fun w' hS => by (try dsimp only at hS); go_simp; (try with_reducible rfl)) ?_; (try simp only [Act.put, List.setIfInBounds_toArray, List.set_cons_zero, List.set_cons_succ])) | (refine seq_skip rfl (by rfl) ?_; (try simp only [Act.put, List.setIfInBounds_toArray, List.set_cons_zero, List.set_cons_succ])))
      refine seq_end ?_
      have hBd := Below.drew hB
      go_wp2
      go_roundw
      case rel => exact ⟨k + 1, by omega, by go_num, rfl, hBd⟩
      case measure => simp [intOf]; omega
    · obtain rfl : k = n := by omega
      go_wp2
      go_ret
      exact ⟨rfl, hB⟩
end Go.Proofs.Ytmfbkgdlfackcaa

namespace Go.Proofs.Ytmfbkgdlfackcaa
open Fw Go.RowKit

/-- The answers on what tells nothing. -/
theorem idles_two {h : Hd} {xs : List (Int × Int)} {ss : List Sett} (hv : validH h xs ss = true) :
    (onceA h xs ss = .ok (onceE ss h.images.toNat)) ∧ ((¬ (∃ x, Tru h.sLo h.sHi (tellsOf xs h.eLo h.eHi ss) x) ∧ idleA h xs ss = .error 10) ∨
      ((∃ x, Tru h.sLo h.sHi (tellsOf xs h.eLo h.eHi ss) x) ∧ idleA h xs ss = .ok (idleS h.sLo h.sHi (tellsOf xs h.eLo h.eHi ss) ss.length))) := by
  refine ⟨by rw [← once_same]; unfold onceX; rw [if_pos hv], ?_⟩
  by_cases hs : (sumsS h xs ss (allS ss)).1 > (sumsS h xs ss (allS ss)).2
  · refine .inl ⟨ref_none hv hs, ?_⟩
    rcases idle_cases h xs ss with ⟨h1, h2⟩ | ⟨h1, h2, h3, h4⟩
    · have e : openE h xs ss true = (0, 0, 10) := by unfold openE; rw [if_pos hv, if_pos rfl, if_pos hs]
      rw [e] at h2; exact h2
    · exact absurd hs h3
  · refine .inr ⟨?_, ?_⟩
    · have ⟨x, hx, _⟩ := (ref_sums hv hs).2.1
      exact ⟨x, hx⟩
    · rcases idle_cases h xs ss with ⟨h1, h2⟩ | ⟨h1, h2, h3, h4⟩
      · have e : openE h xs ss true = ((sumsS h xs ss (allS ss)).1, (sumsS h xs ss (allS ss)).2, 0) := by unfold openE; rw [if_pos hv, if_pos rfl, if_neg hs]
        rw [e] at h1; exact absurd rfl h1
      · exact h4
section
variable {h h' : Hd} {xs : List (Int × Int)} {ss ss' : List Sett} {f g : (Nat → Int) → Nat → Int} {r : Nat → Nat}
theorem Turn.idle_same (t : Turn h xs ss h' ss' f g r) (hid : ∀ k, k < ss.length → r k = k) : idleA h' xs ss' = idleA h xs ss := by
  obtain ⟨va, vb, vc, vd, ve, vf, vg⟩ := valid_has t.hv
  obtain ⟨va', vb', vc', vd', ve', vf', vg'⟩ := valid_has t.hv'
  rcases (idles_two t.hv).2 with ⟨h1, e1⟩ | ⟨h1, e1⟩ <;> rcases (idles_two t.hv').2 with ⟨h2, e2⟩ | ⟨h2, e2⟩
  · rw [e1, e2]
  · exact absurd (t.ex.2 h2) h1
  · exact absurd (t.ex.1 h1) h2
  · rw [e1, e2]
    congr 1
    have ra := (idleS_rng h.sLo h.sHi (tellsOf xs h.eLo h.eHi ss) ss.length vf).1
    have rb := (idleS_rng h'.sLo h'.sHi (tellsOf xs h'.eLo h'.eHi ss') ss'.length vf').1
    have hb : ∀ k, k < ss.length → hasB (idleS h'.sLo h'.sHi (tellsOf xs h'.eLo h'.eHi ss') ss'.length) k = hasB (idleS h.sLo h.sHi (tellsOf xs h.eLo h.eHi ss) ss.length) k := fun k hk => by
      have := t.idle h1 hk
      rw [hid k hk] at this; exact this
    obtain ⟨p1, p2, p3⟩ := pow_12 vf
    rw [t.len] at rb hb ⊢
    generalize idleS h'.sLo h'.sHi (tellsOf xs h'.eLo h'.eHi ss') ss.length = u at *
    generalize idleS h.sLo h.sHi (tellsOf xs h.eLo h.eHi ss) ss.length = v at *
    obtain ⟨a, rfl⟩ : ∃ a : Nat, u = (a : Int) := ⟨u.toNat, by omega⟩
    obtain ⟨b, rfl⟩ : ∃ b : Nat, v = (b : Int) := ⟨v.toNat, by omega⟩
    rw [bits_same (n := ss.length) (by omega) (by omega) hb]
theorem Turn.idle_back (t : Turn h xs ss h' ss' f g r) (hr : ∀ k, k < ss.length → r k = ss.length - 1 - k) : ∃ (i : Nat) (e : Int), i < 2 ^ ss.length ∧
    replyI (idleA h xs ss) = .tuple #[.int .i64 i, .int .i64 e] ∧ replyI (idleA h' xs ss') = .tuple #[.int .i64 (backN ss.length i ss.length), .int .i64 e] := by
  obtain ⟨va, vb, vc, vd, ve, vf, vg⟩ := valid_has t.hv
  obtain ⟨va', vb', vc', vd', ve', vf', vg'⟩ := valid_has t.hv'
  have h0 : ∀ n k, backN n 0 k = 0 := fun n k => by
    induction k with
    | zero => rfl
    | succ k ih => rw [backN, Nat.zero_testBit, if_neg (by decide), ih]
  rcases (idles_two t.hv).2 with ⟨h1, e1⟩ | ⟨h1, e1⟩ <;> rcases (idles_two t.hv').2 with ⟨h2, e2⟩ | ⟨h2, e2⟩
  · exact ⟨0, 10, Nat.two_pow_pos _, by rw [e1]; rfl, by rw [e2, h0]; rfl⟩
  · exact absurd (t.ex.2 h2) h1
  · exact absurd (t.ex.1 h1) h2
  · rw [e1, e2]
    have ra := (idleS_rng h.sLo h.sHi (tellsOf xs h.eLo h.eHi ss) ss.length vf).1
    have rb := (idleS_rng h'.sLo h'.sHi (tellsOf xs h'.eLo h'.eHi ss') ss'.length vf').1
    have hb : ∀ k, k < ss.length → hasB (idleS h'.sLo h'.sHi (tellsOf xs h'.eLo h'.eHi ss') ss'.length) (ss.length - 1 - k) = hasB (idleS h.sLo h.sHi (tellsOf xs h.eLo h.eHi ss) ss.length) k := fun k hk => by
      have := t.idle h1 hk
      rw [hr k hk] at this; exact this
    obtain ⟨p1, p2, p3⟩ := pow_12 vf
    rw [t.len] at rb hb ⊢
    generalize idleS h'.sLo h'.sHi (tellsOf xs h'.eLo h'.eHi ss') ss.length = u at *
    generalize idleS h.sLo h.sHi (tellsOf xs h.eLo h.eHi ss) ss.length = v at *
    obtain ⟨a, rfl⟩ : ∃ a : Nat, u = (a : Int) := ⟨u.toNat, by omega⟩
    obtain ⟨b, rfl⟩ : ∃ b : Nat, v = (b : Int) := ⟨v.toNat, by omega⟩
    have e : a = backN ss.length b ss.length := bits_same (n := ss.length) (by omega) (backN_lt _ _ _ (Nat.le_refl _)) fun k hk => by
      have e2 : k = ss.length - 1 - (ss.length - 1 - k) := by omega
      rw [e2, backN_has (by omega), hb _ (by omega)]
    exact ⟨b, 0, by omega, rfl, by rw [← e]; rfl⟩
theorem clash_rng (hv : validH h xs ss = true) : ∃ q : Int, replyI (clashA h xs ss) = .tuple #[.int .i64 q, .int .i64 0] ∧ 0 ≤ q ∧ q < 4096 ∧ clashR h xs ss = q := by
  obtain ⟨va, vb, vc, vd, ve, vf, vg⟩ := valid_has hv
  obtain ⟨p1, p2, p3⟩ := pow_12 vf
  have hr : replyI (clashA h xs ss) = .tuple #[.int .i64 (clashR h xs ss), .int .i64 0] := by unfold clashA; rw [if_pos hv]; rfl
  refine ⟨_, hr, ?_, ?_, rfl⟩
  all_goals
    cases hc : canB h xs ss (allS ss)
    · obtain ⟨q, e1, _, e2, _⟩ := clash_best hv hc
      rw [e1]; omega
    · rw [clash_zero hv hc]; omega
theorem flipX_at (x : Nat → Int) (k : Nat) : flipX x (2 + k) = -x (2 + k) := by
  unfold flipX
  rw [if_neg (by omega), if_neg (by omega)]
theorem x_apart (hv : validH h xs ss = true) (sa : Option Addr) (n cap : Nat) {a b : Int} (ha : isImg h.images a = true) (hb : isImg h.images b = true) {v1 v2 w : Int}
    (q : reply (apartA h xs ss a b) = .tuple #[.agg #[.int .i64 v1, .int .i64 v2], .int .i64 w]) :
    reply (apartA (partH h sa n cap) xs (flipS ss) a b) = .tuple #[.agg #[.int .i64 (-v2), .int .i64 (-v1)], .int .i64 w] :=
  (flip_turn hv sa n cap).apart_neg ha hb (fun i => flip_has i ss) (fun x => by rw [flipX_at, flipX_at]; omega) (fun x => by rw [flipX_at, flipX_at]; omega) q
theorem img_rng {N a : Int} (h : isImg N a = true) : 0 ≤ a ∧ a < N := by simpa [isImg] using h
theorem img_mk {N a : Int} (h : 0 ≤ a ∧ a < N) : isImg N a = true := by simpa [isImg] using h
theorem y_place (hv : validH h xs ss = true) (u : Int) (sa : Option Addr) (n cap : Nat) {a : Int} (ha : isImg h.images a = true) :
    placeA (partH h sa n cap) xs (yS h.images u ss) (numI h.images u a) = placeA h xs ss a := by
  obtain ⟨va, vb, vc, vd, ve, vf, vg⟩ := valid_has hv
  have hr := img_rng ha
  refine (y_turn hv u sa n cap).place ha (img_mk (numI_rng vd)) (y_has vd hr fun s hs => (vg s hs).1) (fun x => ?_) (fun x => ?_)
  · rw [yF_at vd hr]; rfl
  · rw [yG_at hr.1]; rfl
theorem y_apart (hv : validH h xs ss = true) (u : Int) (sa : Option Addr) (n cap : Nat) {a b : Int} (ha : isImg h.images a = true) (hb : isImg h.images b = true) :
    apartA (partH h sa n cap) xs (yS h.images u ss) (numI h.images u a) (numI h.images u b) = apartA h xs ss a b := by
  obtain ⟨va, vb, vc, vd, ve, vf, vg⟩ := valid_has hv
  have hra := img_rng ha
  have hrb := img_rng hb
  refine (y_turn hv u sa n cap).apart ha hb (img_mk (numI_rng vd)) (img_mk (numI_rng vd)) (y_has vd hra fun s hs => (vg s hs).1) (y_has vd hrb fun s hs => (vg s hs).1) (num_inj vd hra hrb) (fun x => ?_) (fun x => ?_)
  · rw [yF_at vd hra, yF_at vd hrb]
  · rw [yG_at hra.1, yG_at hrb.1]
end
end Go.Proofs.Ytmfbkgdlfackcaa

namespace Go.Proofs.Ytmfbkgdlfackcaa
open Fw Go.RowKit

structure R2 (base : Nat) (X : World) (vx vy : Value) (n m : Nat) (Lx Ly : List Sett) : Prop where
  rx : X.ownsRow base 44 3 vx n (Lx.flatMap settV)
  ry : X.ownsRow base 44 3 vy m (Ly.flatMap settV)
  ne : ∀ b, vx.ownBlock = some b → vy.ownBlock ≠ some b
section
variable {base n m : Nat} {X X' : World} {vx vy : Value} {Lx Ly : List Sett}
theorem R2.nil (base : Nat) (X : World) : R2 base X (.slice none 0 0) (.slice none 0 0) 0 0 [] [] := ⟨World.ownsRow_nil _ _ _ _, World.ownsRow_nil _ _ _ _, fun b h => by cases h⟩
theorem R2.kept (k : R2 base X vx vy n m Lx Ly) (hg : X.grownBy X' none) : R2 base X' vx vy n m Lx Ly :=
  ⟨k.rx.kept hg (by cases h : vx.ownBlock <;> simp), k.ry.kept hg (by cases h : vy.ownBlock <;> simp), k.ne⟩
theorem R2.swap (k : R2 base X vx vy n m Lx Ly) : R2 base X vy vx m n Ly Lx := ⟨k.ry, k.rx, fun b h e => k.ne b e h⟩
/-- One setting more onto the first row. -/
theorem wp_put_x {o : Oper} {a : Act} {K : Act → World → Prop} {Q : Exit → Act → World → Prop} (s x : Operand) (ho : o.op = .call { callee := .builtin .append, args := #[s, x], argTypes := #[27, 27] })
    (k : R2 base X vx vy n m Lx Ly) (hs : a.eval s = vx) (gs : Nat) (hx : a.eval x = .slice (some ⟨gs, 0, none⟩) 1 1) (st : Sett) (hn : ∀ j u, (settV st)[j]? = some u → X.cell? ((⟨gs, 0, none⟩ : Addr).add j) = some u) (hl : n ≤ 100) (hb : base ≤ X.heap.size)
    (h : ∀ g cap X', R2 base X' (.slice (some ⟨g, 0, none⟩) (n + 1) cap) vy (n + 1) m (Lx ++ [st]) Ly → X.grownBy X' vx.ownBlock → Below base X X' → (vx.ownBlock = some g ∨ g = X.heap.size) → K (a.put o.dst (.slice (some ⟨g, 0, none⟩) (n + 1) cap)) X') : o.wp Try.prog a X K Q := by
  obtain ⟨i0, hi9, hz0, hz1, hz2⟩ := info44p
  refine wp_append_lies X s x 27 ho base 44 i0 (.agg #[.int .i64 0, .int .i64 0, .bool false]) 3 24 Try.underlying27 hi9 hz0 hz1 hz2 rfl (by decide) vx n (Lx.flatMap settV) hs k.rx ⟨gs, 0, none⟩ 1 1 (settV st) hx rfl hn
    (by intro u hu; simp [settV] at hu; rcases hu with rfl | rfl | rfl <;> rfl) (by omega) (by unfold maxLen; omega) (by omega) hb _ rfl ?_
  intro g cap X' hrow hgr hor hlt
  refine h g cap X' ⟨by rw [List.flatMap_append]; simpa using hrow, k.ry.kept hgr ?_, ?_⟩ hgr ((Below.refl _ _).grown hgr hb (fun j hj => (k.rx.lt j hj).1)) hor
  · cases hv : vy.ownBlock with
    | none => exact .inl rfl
    | some b => exact .inr (fun e => k.ne b e.symm hv)
  · intro b e e2
    have e3 : g = b := by simpa [Value.ownBlock] using e
    subst e3
    rcases hor with h1 | h1
    · exact k.ne g h1 e2
    · have := (k.ry.lt g e2).2; omega
theorem wp_put_y {o : Oper} {a : Act} {K : Act → World → Prop} {Q : Exit → Act → World → Prop} (s x : Operand) (ho : o.op = .call { callee := .builtin .append, args := #[s, x], argTypes := #[27, 27] })
    (k : R2 base X vx vy n m Lx Ly) (hs : a.eval s = vy) (gs : Nat) (hx : a.eval x = .slice (some ⟨gs, 0, none⟩) 1 1) (st : Sett) (hn : ∀ j u, (settV st)[j]? = some u → X.cell? ((⟨gs, 0, none⟩ : Addr).add j) = some u) (hl : m ≤ 100) (hb : base ≤ X.heap.size)
    (h : ∀ g cap X', R2 base X' vx (.slice (some ⟨g, 0, none⟩) (m + 1) cap) n (m + 1) Lx (Ly ++ [st]) → X.grownBy X' vy.ownBlock → Below base X X' → (vy.ownBlock = some g ∨ g = X.heap.size) → K (a.put o.dst (.slice (some ⟨g, 0, none⟩) (m + 1) cap)) X') : o.wp Try.prog a X K Q :=
  wp_put_x s x ho k.swap hs gs hx st hn hl hb fun g cap X' k' hg hB ho => h g cap X' k'.swap hg hB ho
end
def spanV (s : Int × Int) : List Value := [.int .i64 s.1, .int .i64 s.2]
theorem spans_len (xs : List (Int × Int)) : (xs.flatMap spanV).length = xs.length * 2 := by
  induction xs with
  | nil => rfl
  | cons s xs ih => rw [List.flatMap_cons, List.length_append, ih]; simp [spanV]; omega
theorem flat_span (xs : List (Int × Int)) : ∀ k, k < xs.length → (xs.flatMap spanV)[k * 2]? = some (.int .i64 (xs.getD k (0, 0)).1) ∧ (xs.flatMap spanV)[k * 2 + 1]? = some (.int .i64 (xs.getD k (0, 0)).2) := by
  induction xs with
  | nil => intro k hk; simp at hk
  | cons s xs ih =>
    intro k hk
    cases k with
    | zero => simp [spanV]
    | succ k =>
      have h := ih k (by simpa using hk)
      have e1 : (k + 1) * 2 = k * 2 + 2 := by omega
      rw [e1, List.flatMap_cons]
      constructor
      · rw [List.getElem?_append_right (by simp [spanV])]; simpa [spanV] using h.1
      · rw [List.getElem?_append_right (by simp [spanV])]
        have e2 : k * 2 + 2 + 1 - (spanV s).length = k * 2 + 1 := by simp [spanV]
        rw [e2]; simpa using h.2
theorem info24 : (Try.prog.info? 24).map (fun i => (i.zero, i.size, i.bytes)) = some (some (.agg #[.int .i64 0, .int .i64 0]), 2, 16) := by kernel_rfl
theorem info24p : ∃ i, Try.prog.info? 24 = some i ∧ i.zero = some (.agg #[.int .i64 0, .int .i64 0]) ∧ i.size = 2 ∧ i.bytes = 16 := by
  have h := info24
  cases hi : Try.prog.info? 24 with
  | none => rw [hi] at h; simp at h
  | some i => rw [hi] at h; simp at h; exact ⟨i, rfl, h.1, h.2.1, h.2.2⟩
theorem news_span {w : World} {b o : Nat} {xs : List (Int × Int)} (hc : ∀ k, k < xs.length → w.cell? ⟨b, o + k * 2, none⟩ = some (.int .i64 (xs.getD k (0, 0)).1) ∧ w.cell? ⟨b, o + k * 2 + 1, none⟩ = some (.int .i64 (xs.getD k (0, 0)).2)) :
    ∀ j u, (xs.flatMap spanV)[j]? = some u → w.cell? ((⟨b, o, none⟩ : Addr).add j) = some u := by
  intro j u hj
  have hlt : j < xs.length * 2 := by rw [← spans_len]; exact (List.getElem?_eq_some_iff.1 hj).1
  have hadd : (⟨b, o, none⟩ : Addr).add j = ⟨b, o + j, none⟩ := by unfold Addr.add; split <;> simp_all
  rw [hadd]
  have hk : j / 2 < xs.length := by omega
  obtain ⟨c0, c1⟩ := hc _ hk
  obtain ⟨f0, f1⟩ := flat_span xs _ hk
  have hr : j = j / 2 * 2 ∨ j = j / 2 * 2 + 1 := by omega
  rcases hr with h | h
  · rw [h] at hj ⊢; rw [f0] at hj; injection hj with hj; rw [← hj, ← c0]
  · rw [h] at hj ⊢; rw [f1] at hj; injection hj with hj; rw [← hj, ← c1]; rfl
theorem wp_append_spans {o : Oper} {a : Act} {w : World} {K : Act → World → Prop} {Q : Exit → Act → World → Prop} (s x : Operand) (ho : o.op = .call { callee := .builtin .append, args := #[s, x], argTypes := #[22, 22] })
    (base : Nat) (v : Value) (hs : a.eval s = v) (hown : w.ownsRow base 24 2 v 0 []) (sa : Option Addr) (n c : Nat) (xs : List (Int × Int)) (hx : a.eval x = .slice sa n c) (hst : Spans w sa xs) (hn : xs.length = n) (hl : n ≤ 100) (hbase : base ≤ w.heap.size)
    (h : ∀ v' w', w'.ownsRow base 24 2 v' n (xs.flatMap spanV) → w.grownBy w' v.ownBlock → K (a.put o.dst v') w') : o.wp Try.prog a w K Q := by
  obtain ⟨i0, hi9, hz0, hz1, hz2⟩ := info24p
  have hr : ∃ v' w', (Builtin.append_ #[22, 22] o.type #[v, .slice sa n c]).run Try.prog w = .ok v' w' ∧ w'.ownsRow base 24 2 v' n (xs.flatMap spanV) ∧ w.grownBy w' v.ownBlock := by
    by_cases h0 : xs = []
    · subst h0
      obtain rfl : n = 0 := by rw [← hn]; rfl
      exact ⟨v, w, run_append_nothing base 22 o.type 24 i0 2 Try.underlying22 hi9 v 0 [] hown sa c, hown, .refl _ _⟩
    · rcases hst with h1 | ⟨b, ofs, h1, h2, h3⟩
      · exact absurd h1 h0
      · subst h1
        obtain ⟨v', w', r1, r2, r3, _⟩ := run_append_own (P := Try.prog) w base 22 o.type 24 i0 (.agg #[.int .i64 0, .int .i64 0]) 2 16 Try.underlying22 hi9 hz0 hz1 hz2 rfl (by decide) v 0 [] hown ⟨b, ofs, none⟩ n c (xs.flatMap spanV) (by rw [spans_len, hn]) (news_span h3)
          (fun u hu => by
            obtain ⟨s, _, hs⟩ := List.mem_flatMap.1 hu
            simp [spanV] at hs
            rcases hs with rfl | rfl <;> rfl) (by unfold maxLen; omega) (by omega) hbase
        rw [Nat.zero_add, List.nil_append] at r2
        exact ⟨v', w', r1, r2, r3⟩
  obtain ⟨v', w', r1, r2, r3⟩ := hr
  unfold Oper.wp execOp
  simp only [ho, resolve, invoke, builtin, Sem.run_bind, Sem.run_pure, Result.andThen_ok, List.map_toArray, List.map_cons, List.map_nil, hs, hx, r1]
  exact h v' w' r2 r3
end Go.Proofs.Ytmfbkgdlfackcaa

namespace Go.Proofs.Ytmfbkgdlfackcaa
open Fw Go.RowKit

theorem own_ne {w : World} {b1 b2 n1 n2 : Nat} {v1 v2 : Value} {l1 l2 : List Value} (h1 : w.ownsRow b1 44 3 v1 n1 l1) (h2 : w.ownsRow b2 24 2 v2 n2 l2) : v1.ownBlock = none ∨ v1.ownBlock ≠ v2.ownBlock := by
  rcases h1.2 with ⟨e1, _⟩ | ⟨g1, c1, u1, e1, _, k1, _⟩
  · subst e1; exact .inl rfl
  · rcases h2.2 with ⟨e2, _⟩ | ⟨g2, c2, u2, e2, _, k2, _⟩
    · subst e1; subst e2; exact .inr (fun e => by cases e)
    · subst e1; subst e2
      refine .inr (fun e => ?_)
      have e : g1 = g2 := by simpa [Value.ownBlock] using e
      subst e
      rw [k1] at k2
      cases k2
theorem own_ne' {w : World} {b1 b2 n1 n2 : Nat} {v1 v2 : Value} {l1 l2 : List Value} (h1 : w.ownsRow b1 24 2 v1 n1 l1) (h2 : w.ownsRow b2 44 3 v2 n2 l2) : v1.ownBlock = none ∨ v1.ownBlock ≠ v2.ownBlock := by
  rcases own_ne h2 h1 with h | h
  · cases hv : v1.ownBlock with
    | none => exact .inl rfl
    | some b => exact .inr (by rw [h]; exact fun e => by cases e)
  · exact .inr (fun e => h e.symm)
theorem row_spans {W : World} {base n : Nat} {v : Value} {xs : List (Int × Int)} (h : W.ownsRow base 24 2 v n (xs.flatMap spanV)) (hn : xs.length = n) : ∃ sa cap, v = .slice sa n cap ∧ Spans W sa xs := by
  rcases h.2 with ⟨h1, h2⟩ | ⟨g, cap, cur, h1, hb, hg, _⟩
  · subst h1; subst h2
    exact ⟨none, 0, rfl, .inl (List.eq_nil_of_length_eq_zero hn)⟩
  · subst h1
    by_cases h0 : xs = []
    · exact ⟨_, cap, rfl, .inl h0⟩
    · refine ⟨_, cap, rfl, .inr ⟨g, 0, rfl, (h.lt g rfl).2, fun k hk => ?_⟩⟩
      obtain ⟨f0, f1⟩ := flat_span xs k hk
      refine ⟨?_, ?_⟩
      · rw [Nat.zero_add, h.cellAt _ (by omega), f0]
      · rw [Nat.zero_add, h.cellAt _ (by omega), f1]
theorem flip_rd {ss : List Sett} (h : ∀ s ∈ ss, s.2.1 ≤ 100000) : ∀ s ∈ flipS ss, s.2.1 ≤ 9223372036854775807 := fun s hs => by
  obtain ⟨t, ht, rfl⟩ := List.mem_map.1 hs
  have := h t ht
  show t.2.1 ≤ _
  omega
theorem y_rd {ss : List Sett} {N u : Int} (h : ∀ s ∈ ss, s.2.1 ≤ 100000) : ∀ s ∈ yS N u ss, s.2.1 ≤ 9223372036854775807 := fun s hs => by
  obtain ⟨t, ht, rfl⟩ := List.mem_map.1 hs
  have := h t (List.mem_reverse.1 ht)
  show t.2.1 ≤ _
  omega
section
variable {h : Hd} {xs : List (Int × Int)} {ss : List Sett}
theorem turn_sums (hv : validH h xs ss = true) (u : Int) (sa sb : Option Addr) (n m ca cb : Nat) :
    ∃ s1 s2 e : Int, reply (sumA h xs ss) = .tuple #[.agg #[.int .i64 s1, .int .i64 s2], .int .i64 e] ∧
      reply (sumA (partH h sa n ca) xs (flipS ss)) = .tuple #[.agg #[.int .i64 s1, .int .i64 s2], .int .i64 e] ∧
      reply (sumA (partH h sb m cb) xs (yS h.images u ss)) = .tuple #[.agg #[.int .i64 s1, .int .i64 s2], .int .i64 e] := by
  obtain ⟨s1, s2, e, hs⟩ := reply_eq (sumA_sp h xs ss)
  exact ⟨s1, s2, e, hs, by rw [(flip_turn hv sa n ca).sum]; exact hs, by rw [(y_turn hv u sb m cb).sum]; exact hs⟩
theorem turn_clash (hv : validH h xs ss = true) (u : Int) (sa sb : Option Addr) (n m ca cb : Nat) :
    ∃ c d : Int, replyI (clashA h xs ss) = .tuple #[.int .i64 c, .int .i64 0] ∧ replyI (clashA (partH h sa n ca) xs (flipS ss)) = .tuple #[.int .i64 c, .int .i64 0] ∧
      replyI (clashA (partH h sb m cb) xs (yS h.images u ss)) = .tuple #[.int .i64 d, .int .i64 0] ∧ (0 ≤ c ∧ c < 4096) ∧ (0 ≤ d ∧ d < 4096) ∧ popc d = popc c := by
  have t1 := flip_turn hv sa n ca
  have t2 := y_turn hv u sb m cb
  obtain ⟨c, hc, c0, c1, ec⟩ := clash_rng hv
  obtain ⟨c', hc', _, _, ec'⟩ := clash_rng t1.hv'
  obtain ⟨d, hd, d0, d1, ed⟩ := clash_rng t2.hv'
  have e1 := t1.clash (fun k _ => rfl)
  have e2 := t2.clash_size (fun k _ => rfl)
  rw [ec, ec'] at e1
  rw [ec, ed] at e2
  subst e1
  exact ⟨c', d, hc, hc', hd, ⟨c0, c1⟩, ⟨d0, d1⟩, e2⟩
theorem turn_idle (hv : validH h xs ss = true) (u : Int) (sa sb : Option Addr) (n m ca cb : Nat) :
    ∃ (i : Nat) (e : Int), i < 2 ^ ss.length ∧ replyI (idleA h xs ss) = .tuple #[.int .i64 i, .int .i64 e] ∧ replyI (idleA (partH h sa n ca) xs (flipS ss)) = .tuple #[.int .i64 i, .int .i64 e] ∧
      replyI (idleA (partH h sb m cb) xs (yS h.images u ss)) = .tuple #[.int .i64 (backN ss.length i ss.length), .int .i64 e] := by
  obtain ⟨i, e, hi, h1, h2⟩ := (y_turn hv u sb m cb).idle_back (fun k _ => rfl)
  exact ⟨i, e, hi, h1, by rw [(flip_turn hv sa n ca).idle_same (fun k _ => rfl)]; exact h1, h2⟩
theorem turn_once (hv : validH h xs ss = true) (sa : Option Addr) (n ca : Nat) :
    ∃ l : Int, replyI (onceA h xs ss) = .tuple #[.int .i64 l, .int .i64 0] ∧ replyI (onceA (partH h sa n ca) xs (flipS ss)) = .tuple #[.int .i64 l, .int .i64 0] := by
  refine ⟨onceE ss h.images.toNat, by rw [(idles_two hv).1]; rfl, ?_⟩
  rw [(idles_two (flip_turn hv sa n ca).hv').1, flip_once]
  rfl
theorem turn_drop (hv : validH h xs ss = true) (u : Int) (sb : Option Addr) (m cb : Nat) :
    ∃ p q : Int, replyI (dropA h xs ss) = .tuple #[.int .i64 p, .int .i64 0] ∧ replyI (dropA (partH h sb m cb) xs (yS h.images u ss)) = .tuple #[.int .i64 q, .int .i64 0] ∧ (0 ≤ p ∧ p < 4096) ∧ (0 ≤ q ∧ q < 4096) ∧ popc q = popc p := by
  have t2 := y_turn hv u sb m cb
  obtain ⟨p, hp, p0, p1, ep⟩ := drop_rng hv
  obtain ⟨q, hq, q0, q1, eq⟩ := drop_rng t2.hv'
  have e2 := t2.drop_size (fun k _ => rfl)
  rw [ep, eq] at e2
  exact ⟨p, q, hp, hq, ⟨p0, p1⟩, ⟨q0, q1⟩, e2⟩
theorem apart_rng (hv : validH h xs ss = true) {a b : Int} (ha : isImg h.images a = true) (hb : isImg h.images b = true) {v1 v2 w : Int} (q : reply (apartA h xs ss a b) = .tuple #[.agg #[.int .i64 v1, .int .i64 v2], .int .i64 w]) :
    (-400000 ≤ v1 ∧ v1 ≤ 400000) ∧ (-400000 ≤ v2 ∧ v2 ≤ 400000) := by
  by_cases hx : ∃ x, Tru h.sLo h.sHi (tellsOf xs h.eLo h.eHi ss) x
  · by_cases hc : a = b ∨ (hasC a (cntsOf ss) = true ∧ hasC b (cntsOf ss) = true)
    · obtain ⟨lo, hi, e, ex⟩ := apart_ok hv ha hb hx hc
      rw [e] at q
      obtain ⟨rfl, rfl, rfl⟩ := tup_inj (c := 0) q
      obtain ⟨_, ⟨y, hy, ey⟩, z, hz, ez⟩ := ex
      rcases hc with rfl | ⟨h1, h2⟩
      · omega
      · obtain ⟨pl, ph, e1, x1⟩ := place_ok hv ha hx h1
        obtain ⟨ql, qh, e2, x2⟩ := place_ok hv hb hx h2
        have r1 := place_rng hv e1
        have r2 := place_rng hv e2
        have := x1.1 y hy; have := x2.1 y hy; have := x1.1 z hz; have := x2.1 z hz
        omega
    · rw [apart_doubt hv ha hb hx (fun e => hc (.inl e)) (fun e => hc (.inr e))] at q
      obtain ⟨rfl, rfl, rfl⟩ := tup_inj (a := 0) (b := 0) (c := 12) q
      omega
  · rw [apart_clash hv ha hb hx] at q
    obtain ⟨rfl, rfl, rfl⟩ := tup_inj (a := 0) (b := 0) (c := 10) q
    omega
/-- The images a and b. -/
theorem turn_ab (hv : validH h xs ss = true) (u : Int) (sa sb : Option Addr) (n m ca cb : Nat) {a b : Int} (ha : 0 ≤ a ∧ a < h.images) (hb : 0 ≤ b ∧ b < h.images) :
    ∃ v1 v2 w d1 d2 g : Int, reply (apartA h xs ss a b) = .tuple #[.agg #[.int .i64 v1, .int .i64 v2], .int .i64 w] ∧
      reply (apartA (partH h sa n ca) xs (flipS ss) a b) = .tuple #[.agg #[.int .i64 (-v2), .int .i64 (-v1)], .int .i64 w] ∧
      reply (apartA (partH h sb m cb) xs (yS h.images u ss) (numI h.images u a) (numI h.images u b)) = .tuple #[.agg #[.int .i64 v1, .int .i64 v2], .int .i64 w] ∧
      reply (placeA h xs ss a) = .tuple #[.agg #[.int .i64 d1, .int .i64 d2], .int .i64 g] ∧
      reply (placeA (partH h sb m cb) xs (yS h.images u ss) (numI h.images u a)) = .tuple #[.agg #[.int .i64 d1, .int .i64 d2], .int .i64 g] ∧ (-400000 ≤ v1 ∧ v1 ≤ 400000) ∧ (-400000 ≤ v2 ∧ v2 ≤ 400000) := by
  obtain ⟨v1, v2, w, hq⟩ := reply_eq (apartA_sp h xs ss a b)
  obtain ⟨d1, d2, g, hp⟩ := reply_eq (placeA_sp h xs ss a)
  exact ⟨v1, v2, w, d1, d2, g, hq, x_apart hv sa n ca (img_mk ha) (img_mk hb) hq, by rw [y_apart hv u sb m cb (img_mk ha) (img_mk hb)]; exact hq, hp, by rw [y_place hv u sb m cb (img_mk ha)]; exact hp, apart_rng hv (img_mk ha) (img_mk hb) hq⟩
end
end Go.Proofs.Ytmfbkgdlfackcaa

namespace Go.Proofs.Ytmfbkgdlfackcaa
open Fw Go.RowKit

/-- A measure in memory whose settings are a value of its own. -/
structure BoxV (X : World) (g : Nat) (h : Hd) (v : Value) : Prop where
  c0 : X.cell? ⟨g, 0, none⟩ = some (.slice h.a h.n h.cap)
  c1 : X.cell? ⟨g, 1, none⟩ = some (.int .i64 h.eLo)
  c2 : X.cell? ⟨g, 2, none⟩ = some (.int .i64 h.eHi)
  c3 : X.cell? ⟨g, 3, none⟩ = some (.int .i64 h.images)
  c4 : X.cell? ⟨g, 4, none⟩ = some (.int .i64 h.sLo)
  c5 : X.cell? ⟨g, 5, none⟩ = some (.int .i64 h.sHi)
  c6 : X.cell? ⟨g, 6, none⟩ = some v
  sl : Slots g 7 X
theorem BoxV.lt {X : World} {g : Nat} {h : Hd} {v : Value} (k : BoxV X g h v) : g < X.heap.size := k.sl.lt7
theorem Box7.toV {X : World} {g : Nat} {h : Hd} (k : Box7 X g h) (v : Value) : BoxV (X.setCell ⟨g, 6, none⟩ v) g h v := by
  obtain ⟨⟨a0, a1, a2, a3, a4, a5, a6⟩, s⟩ := k
  refine ⟨?_, ?_, ?_, ?_, ?_, ?_, World.cell?_setCell_same _ _ _ a6, s.set _ _⟩
  all_goals (rw [World.cell?_setCell_other _ _ _ _ (by intro he; injection he; omega)]; assumption)
theorem BoxV.put {X : World} {g : Nat} {h : Hd} {v : Value} (k : BoxV X g h v) (v' : Value) : BoxV (X.setCell ⟨g, 6, none⟩ v') g h v' := by
  obtain ⟨a0, a1, a2, a3, a4, a5, a6, s⟩ := k
  refine ⟨?_, ?_, ?_, ?_, ?_, ?_, World.cell?_setCell_same _ _ _ a6, s.set _ _⟩
  all_goals (rw [World.cell?_setCell_other _ _ _ _ (by intro he; injection he; omega)]; assumption)
theorem BoxV.far {X : World} {g g' : Nat} {h : Hd} {v : Value} (k : BoxV X g h v) (hne : g ≠ g') (o : Nat) (v' : Value) : BoxV (X.setCell ⟨g', o, none⟩ v') g h v := by
  obtain ⟨a0, a1, a2, a3, a4, a5, a6, s⟩ := k
  refine ⟨?_, ?_, ?_, ?_, ?_, ?_, ?_, s.set _ _⟩
  all_goals (rw [World.cell?_setCell_other _ _ _ _ (by intro he; injection he; omega)]; assumption)
theorem BoxV.grown {X X' : World} {g : Nat} {h : Hd} {v : Value} (k : BoxV X g h v) (hb : Below X.heap.size X X') : BoxV X' g h v :=
  ⟨cellB k.c0 hb, cellB k.c1 hb, cellB k.c2 hb, cellB k.c3 hb, cellB k.c4 hb, cellB k.c5 hb, cellB k.c6 hb, k.sl.below hb k.lt⟩
theorem BoxV.grownBy {X X' : World} {g : Nat} {h : Hd} {v : Value} {row : Option Nat} (k : BoxV X g h v) (hg : X.grownBy X' row) (hne : some g ≠ row) : BoxV X' g h v :=
  ⟨hg.cell k.c0 hne, hg.cell k.c1 hne, hg.cell k.c2 hne, hg.cell k.c3 hne, hg.cell k.c4 hne, hg.cell k.c5 hne, hg.cell k.c6 hne, slots_grownBy k.sl hg hne⟩

theorem grownBy_below {X X' : World} (hb : Below X.heap.size X X') : X.grownBy X' none := ⟨hb.os, hb.tape, hb.output, hb.size, fun i hi _ => hb.block i hi⟩
/-- A round of the loop in which both rows grow. -/
structure WS (w3 : World) (M : Nat) (X : World) (g11 g12 g14 g15 : Nat) (h : Hd) (ux uy vx vy : Value) (n m : Nat) (Lx Ly : List Sett) (s t : Sett) : Prop where
  b1 : BoxV X g11 h ux
  b2 : BoxV X g12 h uy
  p0 : X.cell? ⟨g14, 0, none⟩ = some (.int .i64 s.1)
  p1 : X.cell? ⟨g14, 1, none⟩ = some (.int .i64 s.2.1)
  p2 : X.cell? ⟨g14, 2, none⟩ = some (.bool s.2.2)
  q0 : X.cell? ⟨g15, 0, none⟩ = some (.int .i64 t.1)
  q1 : X.cell? ⟨g15, 1, none⟩ = some (.int .i64 t.2.1)
  q2 : X.cell? ⟨g15, 2, none⟩ = some (.bool t.2.2)
  r : R2 M X vx vy n m Lx Ly
  bel : Below w3.heap.size w3 X
  sz : M ≤ X.heap.size
  wm : w3.heap.size ≤ M
  f1 : g11 < M
  f2 : g12 < M
  ox : ∀ b, vx.ownBlock = some b → b ≠ g14 ∧ b ≠ g15
  oy : ∀ b, vy.ownBlock = some b → b ≠ g14 ∧ b ≠ g15
section
variable {w3 X X' : World} {M g11 g12 g14 g15 : Nat} {h : Hd} {ux uy vx vy : Value} {n m : Nat} {Lx Ly : List Sett} {s t : Sett}
theorem WS.grown (k : WS w3 M X g11 g12 g14 g15 h ux uy vx vy n m Lx Ly s t) (hb : Below X.heap.size X X') : WS w3 M X' g11 g12 g14 g15 h ux uy vx vy n m Lx Ly s t :=
  ⟨k.b1.grown hb, k.b2.grown hb, cellB k.p0 hb, cellB k.p1 hb, cellB k.p2 hb, cellB k.q0 hb, cellB k.q1 hb, cellB k.q2 hb, k.r.kept (grownBy_below hb), BT k.bel hb, Nat.le_trans k.sz hb.size, k.wm, k.f1, k.f2, k.ox, k.oy⟩
theorem WS.drew (k : WS w3 M X g11 g12 g14 g15 h ux uy vx vy n m Lx Ly s t) : WS w3 M X.drew g11 g12 g14 g15 h ux uy vx vy n m Lx Ly s t := k.grown (Below.drew (Below.refl _ _))
theorem WS.putx (k : WS w3 M X g11 g12 g14 g15 h ux uy vx vy n m Lx Ly s t) {g cap : Nat} {L : List Sett} (hr : R2 M X' (.slice (some ⟨g, 0, none⟩) (n + 1) cap) vy (n + 1) m L Ly) (hg : X.grownBy X' vx.ownBlock) (hB : Below M X X') (ho : vx.ownBlock = some g ∨ g = X.heap.size) :
    WS w3 M X' g11 g12 g14 g15 h ux uy (.slice (some ⟨g, 0, none⟩) (n + 1) cap) vy (n + 1) m L Ly s t := by
  have hlt := fun b hb => k.r.rx.lt b hb
  have d1 : some g11 ≠ vx.ownBlock := fun e => by have := (hlt _ e.symm).1; have := k.f1; omega
  have d2 : some g12 ≠ vx.ownBlock := fun e => by have := (hlt _ e.symm).1; have := k.f2; omega
  have d3 : some g14 ≠ vx.ownBlock := fun e => (k.ox _ e.symm).1 rfl
  have d4 : some g15 ≠ vx.ownBlock := fun e => (k.ox _ e.symm).2 rfl
  have l14 := World.block_lt_of_cell? _ _ k.p0
  have l15 := World.block_lt_of_cell? _ _ k.q0
  refine ⟨k.b1.grownBy hg d1, k.b2.grownBy hg d2, hg.cell k.p0 d3, hg.cell k.p1 d3, hg.cell k.p2 d3, hg.cell k.q0 d4, hg.cell k.q1 d4, hg.cell k.q2 d4, hr, k.bel.trans (hB.mono k.wm), Nat.le_trans k.sz hg.size, k.wm, k.f1, k.f2, fun b hb => ?_, k.oy⟩
  have e : g = b := by simpa [Value.ownBlock] using hb
  subst e
  rcases ho with h1 | h1
  · exact k.ox g h1
  · simp only at l14 l15; omega
theorem WS.puty (k : WS w3 M X g11 g12 g14 g15 h ux uy vx vy n m Lx Ly s t) {g cap : Nat} {L : List Sett} (hr : R2 M X' vx (.slice (some ⟨g, 0, none⟩) (m + 1) cap) n (m + 1) Lx L) (hg : X.grownBy X' vy.ownBlock) (hB : Below M X X') (ho : vy.ownBlock = some g ∨ g = X.heap.size) :
    WS w3 M X' g11 g12 g14 g15 h ux uy vx (.slice (some ⟨g, 0, none⟩) (m + 1) cap) n (m + 1) Lx L s t := by
  have hlt := fun b hb => k.r.ry.lt b hb
  have d1 : some g11 ≠ vy.ownBlock := fun e => by have := (hlt _ e.symm).1; have := k.f1; omega
  have d2 : some g12 ≠ vy.ownBlock := fun e => by have := (hlt _ e.symm).1; have := k.f2; omega
  have d3 : some g14 ≠ vy.ownBlock := fun e => (k.oy _ e.symm).1 rfl
  have d4 : some g15 ≠ vy.ownBlock := fun e => (k.oy _ e.symm).2 rfl
  have l14 := World.block_lt_of_cell? _ _ k.p0
  have l15 := World.block_lt_of_cell? _ _ k.q0
  refine ⟨k.b1.grownBy hg d1, k.b2.grownBy hg d2, hg.cell k.p0 d3, hg.cell k.p1 d3, hg.cell k.p2 d3, hg.cell k.q0 d4, hg.cell k.q1 d4, hg.cell k.q2 d4, hr, k.bel.trans (hB.mono k.wm), Nat.le_trans k.sz hg.size, k.wm, k.f1, k.f2, k.ox, fun b hb => ?_⟩
  have e : g = b := by simpa [Value.ownBlock] using hb
  subst e
  rcases ho with h1 | h1
  · exact k.oy g h1
  · simp only at l14 l15; omega
theorem WS.sp (k : WS w3 M X g11 g12 g14 g15 h ux uy vx vy n m Lx Ly s t) : X.cell? ⟨g11, 6, none⟩ = some ux ∧ X.cell? ⟨g12, 6, none⟩ = some uy ∧ X.cell? ⟨g14, 0, none⟩ = some (.int .i64 s.1) ∧ X.cell? ⟨g14, 1, none⟩ = some (.int .i64 s.2.1) ∧ X.cell? ⟨g14, 2, none⟩ = some (.bool s.2.2) ∧
    X.cell? ⟨g15, 0, none⟩ = some (.int .i64 t.1) ∧ X.cell? ⟨g15, 1, none⟩ = some (.int .i64 t.2.1) ∧ X.cell? ⟨g15, 2, none⟩ = some (.bool t.2.2) := ⟨k.b1.c6, k.b2.c6, k.p0, k.p1, k.p2, k.q0, k.q1, k.q2⟩
theorem R2.set {base n m : Nat} {X : World} {vx vy : Value} {Lx Ly : List Sett} (k : R2 base X vx vy n m Lx Ly) (a : Addr) (ha : a.block < base) (v : Value) : R2 base (X.setCell a v) vx vy n m Lx Ly :=
  ⟨ownsRow_setCell_below k.rx ha v, ownsRow_setCell_below k.ry ha v, k.ne⟩
theorem add_block2 (g j : Nat) : ((⟨g, 0, none⟩ : Addr).add j).block = g := by unfold Addr.add; split <;> rfl
theorem three_new (w : World) (a b : Int) (c : Bool) : Slots w.heap.size 3 (w.alloc (.cells #[.int .i64 a, .int .i64 b, .bool c] 44)) := by
  intro o ho
  have : o = 0 ∨ o = 1 ∨ o = 2 := by omega
  rcases this with rfl | rfl | rfl <;> simp [go_sem]
theorem flip_take {ss : List Sett} {k : Nat} (hk : k < ss.length) : (flipS ss).take (k + 1) = (flipS ss).take k ++ [((ss.getD k (0, 0, false)).1, (ss.getD k (0, 0, false)).2.1, !(ss.getD k (0, 0, false)).2.2)] := by
  rw [take_snoc' _ (0, 0, false) k (by simpa [flipS] using hk)]
  congr 2
  simp [flipS, List.getD, hk]
theorem y_take {N u : Int} {ss : List Sett} {k j : Nat} (hk : k < ss.length) (hj : ss.length - 1 - k = j) : (yS N u ss).take (k + 1) = (yS N u ss).take k ++ [(numI N u (ss.getD j (0, 0, false)).1, (ss.getD j (0, 0, false)).2.1, (ss.getD j (0, 0, false)).2.2)] := by
  rw [take_snoc' _ (0, 0, false) k (by simpa [yS] using hk), ← yS_get (N := N) (u := u) (show j < ss.length by omega)]
  have e : ss.length - 1 - j = k := by omega
  rw [e]
end

set_option maxRecDepth 100000 in
set_option maxHeartbeats 16000000 in
theorem turnL_any (h : Hd) (xs : List (Int × Int)) (ss : List Sett) (a b y : Int) (w : World) (hm : HasM w h xs ss) (hy : 0 ≤ y ∧ y ≤ 255) :
    Calls Try.prog 12 #[h.val, .int .i64 a, .int .i64 b, .int .u8 y] w (Ret (.bool true) w) := by
  have hmf : ∀ (fn : Fn) (first cap : Array Value) (w : World), (Instr.makeFunc fn first cap).run Try.prog w = .ok (.func fn first cap) w := fun _ _ _ _ => rfl
  have hb0 := (boxM_new hm).grown (newB (w.alloc (.cells #[.slice h.a h.n h.cap, .int .i64 h.eLo, .int .i64 h.eHi, .int .i64 h.images, .int .i64 h.sLo, .int .i64 h.sHi, .slice h.sa h.ns h.scap] 29)) (.cells #[.int .u8 y] 5))
  have hs0 : ((w.alloc (.cells #[.slice h.a h.n h.cap, .int .i64 h.eLo, .int .i64 h.eHi, .int .i64 h.images, .int .i64 h.sLo, .int .i64 h.sHi, .slice h.sa h.ns h.scap] 29)).alloc (.cells #[.int .u8 y] 5)).cell? ⟨w.heap.size + 1, 0, none⟩ = some (.int .u8 y) := by simp [go_sem]
  have hB0 : Below w.heap.size w ((w.alloc (.cells #[.slice h.a h.n h.cap, .int .i64 h.eLo, .int .i64 h.eHi, .int .i64 h.images, .int .i64 h.sLo, .int .i64 h.sHi, .slice h.sa h.ns h.scap] 29)).alloc (.cells #[.int .u8 y] 5)) := by (repeat (first | assumption | exact Below.refl _ _ | refine BA ?_ _ | refine BC ?_ _ _ (by omega) _ | refine Below.drew ?_ | refine BT ?_ (by assumption)))
  have hlx := hm.lx
  have hls := hm.ls
  rw [hm.nx] at hlx
  rw [hm.ns] at hls
  have HM := Lib.hid hm
  clear hm
  obtain ⟨hy0, hy1⟩ := hy
  unfold Hd.val
  go_enter Try.func12, Try.ntmps12
  obtain ⟨c0, c1, c2, c3, c4, c5, c6, hh⟩ := id hb0
  go_wp2_with fail
  generalize hBw : w.heap.size = B at hb0 hs0 c0 c1 c2 c3 c4 c5 c6 ⊢
  generalize (w.alloc (.cells #[.slice h.a h.n h.cap, .int .i64 h.eLo, .int .i64 h.eHi, .int .i64 h.images, .int .i64 h.sLo, .int .i64 h.sHi, .slice h.sa h.ns h.scap] 29)).alloc (.cells #[.int .u8 y] 5) = W at *
  have hwB : w.heap.size ≤ B := by omega
  clear hBw
  refine (great_any h W).mono ?_
  rintro e w1 ⟨rfl, hb1⟩
  have hB1 := BT hB0 hb1
  have HB1 := Lib.hid (hb0.grown hb1)
  have HS1 := Lib.hid (cellB hs0 hb1)
  clear hb0 hb1 hB0 hs0 hh c0 c1 c2 c3 c4 c5 c6
  cases hg : greatB h.n h.ns
  case true =>
    clear HB1 HS1
    go_wp2_with fail
    refine (alive_any _).mono ?_
    rintro e w2 ⟨rfl, hb2⟩
    go_wp2
    go_ret
    exact ⟨rfl, by (repeat (first | assumption | exact Below.refl _ _ | refine BA ?_ _ | refine BC ?_ _ _ (by omega) _ | refine Below.drew ?_ | refine BT ?_ (by assumption)))⟩
  have hg1 : h.ns ≤ 30 ∧ h.n ≤ 100 := by simp [greatB] at hg; omega
  clear hg
  have hnx : xs.length ≤ 100 := by rw [HB1.out.has.nx]; omega
  have hnS := HB1.out.has.ns
  have hns : ss.length ≤ 100 := by rw [hnS]; omega
  obtain ⟨c0, c1, c2, c3, c4, c5, c6, hh⟩ := HB1.out
  have hme := measureR_any h xs ss w1 hh hnx hns
  unfold Hd.val at hme
  clear hh
  go_wp2_with fail
  refine hme.mono ?_
  rintro e w2 ⟨rfl, hb2⟩
  have hB2 := BT hB1 hb2
  have HB2 := Lib.hid (HB1.out.grown hb2)
  have HS2 := Lib.hid (cellB HS1.out hb2)
  clear HB1 HS1 hb2 hB1 c0 c1 c2 c3 c4 c5 c6 hme
  cases hv : validH h xs ss
  case false =>
    clear HB2 HS2
    go_wp2_with fail
    refine (alive_any _).mono ?_
    rintro e w3 ⟨rfl, hb3⟩
    go_wp2
    go_ret
    exact ⟨rfl, by (repeat (first | assumption | exact Below.refl _ _ | refine BA ?_ _ | refine BC ?_ _ _ (by omega) _ | refine Below.drew ?_ | refine BT ?_ (by assumption)))⟩
  have HV := Lib.hid hv
  have HNS := Lib.hid hnS
  have h12 : h.ns ≤ 12 := by rw [← hnS]; exact (valid_has hv).2.2.2.2.2.1
  have hn12 : (h.ns : Int) ≤ 12 := by omega
  have HVI : Hid (1 ≤ h.images ∧ h.images ≤ 6) := (valid_has hv).2.2.2.1
  have HVS : Hid (∀ s ∈ ss, (0 ≤ s.1 ∧ s.1 < h.images) ∧ s.2.1 ≤ 100000) := fun s hs => by
    have h1 := (valid_has hv).2.2.2.2.2.2 s hs
    have h2 := (valid_has hv).1
    omega
  clear hv hnS hns hg1
  obtain ⟨c0, c1, c2, c3, c4, c5, c6, hh⟩ := HB2.out
  clear hh
  have hZ := newB w2 (.cells #[.int .i64 h.ns] 3)
  have HN3 := Lib.hid (show (w2.alloc (.cells #[.int .i64 h.ns] 3)).cell? ⟨w2.heap.size, 0, none⟩ = some (.int .i64 h.ns) by simp [go_sem])
  go_upto_region 5 with fail
  clear c0 c1 c2 c3 c4 c5 c6
  have HB3 := Lib.hid (HB2.out.grown hZ)
  have HS3 := Lib.hid (cellB HS2.out hZ)
  have hB3 := BT hB2 hZ
  generalize w2.heap.size = g10 at HN3 ⊢
  generalize w2.alloc (.cells #[.int .i64 h.ns] 3) = w3 at HN3 HB3 HS3 hB3 ⊢
  clear hZ HB2 HS2 hB2
  have hBX : BoxC w3 B h := ⟨HB3.out.c0, HB3.out.c1, HB3.out.c2, HB3.out.c3, HB3.out.c4, HB3.out.c5, HB3.out.c6⟩
  have hSG : Hid (∀ X, Below w3.heap.size w3 X → X.cell? ⟨B, 0, none⟩ = some (.slice h.a h.n h.cap) ∧ X.cell? ⟨B, 1, none⟩ = some (.int .i64 h.eLo) ∧ X.cell? ⟨B, 2, none⟩ = some (.int .i64 h.eHi) ∧ X.cell? ⟨B, 3, none⟩ = some (.int .i64 h.images) ∧ X.cell? ⟨B, 4, none⟩ = some (.int .i64 h.sLo) ∧ X.cell? ⟨B, 5, none⟩ = some (.int .i64 h.sHi) ∧ X.cell? ⟨B, 6, none⟩ = some (.slice h.sa h.ns h.scap)) := fun X hX => hBX.grown hX
  have hB0 : Below w3.heap.size w3 w3.drew := Below.drew (Below.refl _ _)
  go_cut [11, 12] from 57 to 70 (fun a11 a12 X => ∃ g2 g3 : Nat, a11 = .pointer (some ⟨g2, 0, none⟩) ∧ a12 = .pointer (some ⟨g3, 0, none⟩) ∧ Box7 X g2 h ∧ Box7 X g3 h ∧ g2 ≠ g3 ∧ w3.heap.size ≤ g2 ∧ w3.heap.size ≤ g3 ∧ Below w3.heap.size w3 X)
  case first =>
    refine wp_region_tree (.read 0 (.read 1 (.two 2 (.one 3 (.one 4 (.one 5 (.leaf)))) 3 (.one 2 (.one 4 (.one 5 (.leaf))))))) (fun w' => w'.cell? ⟨B, 0, none⟩ = some (.slice h.a h.n h.cap) ∧ w'.cell? ⟨B, 1, none⟩ = some (.int .i64 h.eLo) ∧ w'.cell? ⟨B, 2, none⟩ = some (.int .i64 h.eHi) ∧ w'.cell? ⟨B, 3, none⟩ = some (.int .i64 h.images) ∧ w'.cell? ⟨B, 4, none⟩ = some (.int .i64 h.sLo) ∧ w'.cell? ⟨B, 5, none⟩ = some (.int .i64 h.sHi) ∧ w'.cell? ⟨B, 6, none⟩ = some (.slice h.sa h.ns h.scap)) (by kernel_rfl) (by kernel_rfl) (fun _ _ d _ _ h => by cases d <;> exact h) (hSG.out _ hB0) ?_
    generalize w3.drew = X0 at hB0 ⊢
    repeat (first | (refine tr_read rfl (by rfl) _ (fun w' hS => by (try dsimp only at hS); go_simp; (try with_reducible rfl)) ?_; (try simp only [Act.put, List.setIfInBounds_toArray, List.set_cons_zero, List.set_cons_succ])) | (refine tr_skip rfl (by rfl) ?_; (try simp only [Act.put, List.setIfInBounds_toArray, List.set_cons_zero, List.set_cons_succ])))
    refine ⟨?_, ?_⟩
    · skip
      refine tr_step rfl (by rfl) (fun K hK => ?_)
      have hB1 := BA hB0 (.cells #[.slice none 0 0, .int .i64 0, .int .i64 0, .int .i64 0, .int .i64 0, .int .i64 0, .slice none 0 0] 29)
      have h2_1 := slots_new7 X0 29
      have hg2 := hB0.size
      go_simp
      generalize X0.heap.size = g2 at *
      generalize X0.alloc (.cells #[.slice none 0 0, .int .i64 0, .int .i64 0, .int .i64 0, .int .i64 0, .int .i64 0, .slice none 0 0] 29) = X1 at *
      refine hK _ _ (hSG.out _ hB1) ?_
      clear hK K hB0 
      (try simp only [Act.put, List.setIfInBounds_toArray, List.set_cons_zero, List.set_cons_succ])
      refine tr_step rfl (by rfl) (fun K hK => ?_)
      have hB2 := BA hB1 (.cells #[.slice none 0 0, .int .i64 0, .int .i64 0, .int .i64 0, .int .i64 0, .int .i64 0, .slice none 0 0] 29)
      have h2_2 := h2_1.below (newB X1 (.cells #[.slice none 0 0, .int .i64 0, .int .i64 0, .int .i64 0, .int .i64 0, .int .i64 0, .slice none 0 0] 29)) (h2_1.lt7)
      have hlt2_2 := h2_1.lt7
      have h3_2 := slots_new7 X1 29
      have hg3 := hB1.size
      go_simp
      generalize X1.heap.size = g3 at *
      generalize X1.alloc (.cells #[.slice none 0 0, .int .i64 0, .int .i64 0, .int .i64 0, .int .i64 0, .int .i64 0, .slice none 0 0] 29) = X2 at *
      refine hK _ _ (hSG.out _ hB2) ?_
      clear hK K hB1 h2_1
      (try simp only [Act.put, List.setIfInBounds_toArray, List.set_cons_zero, List.set_cons_succ])
      refine tr_step rfl (by rfl) (fun K hK => ?_)
      obtain ⟨u0_3, q0_3, f0_3⟩ := h2_2.get 0 (by omega)
      obtain ⟨u1_3, q1_3, f1_3⟩ := h2_2.get 1 (by omega)
      obtain ⟨u2_3, q2_3, f2_3⟩ := h2_2.get 2 (by omega)
      obtain ⟨u3_3, q3_3, f3_3⟩ := h2_2.get 3 (by omega)
      obtain ⟨u4_3, q4_3, f4_3⟩ := h2_2.get 4 (by omega)
      obtain ⟨u5_3, q5_3, f5_3⟩ := h2_2.get 5 (by omega)
      obtain ⟨u6_3, q6_3, f6_3⟩ := h2_2.get 6 (by omega)
      have hB3 := (BC (BC (BC (BC (BC (BC (BC hB2 g2 0 hg2 (.slice h.a h.n h.cap)) g2 1 hg2 (.int .i64 h.eLo)) g2 2 hg2 (.int .i64 h.eHi)) g2 3 hg2 (.int .i64 h.images)) g2 4 hg2 (.int .i64 h.sLo)) g2 5 hg2 (.int .i64 h.sHi)) g2 6 hg2 (.slice h.sa h.ns h.scap))
      have h3_3 := h3_2.far7 (g' := g2) (by omega) h
      have h2_3 := box_put7 h2_2 h
      unfold put7 at *
      go_simp
      clear q0_3 f0_3 q1_3 f1_3 q2_3 f2_3 q3_3 f3_3 q4_3 f4_3 q5_3 f5_3 q6_3 f6_3
      generalize (((((((X2.setCell ⟨g2, 0, none⟩ (.slice h.a h.n h.cap)).setCell ⟨g2, 1, none⟩ (.int .i64 h.eLo)).setCell ⟨g2, 2, none⟩ (.int .i64 h.eHi)).setCell ⟨g2, 3, none⟩ (.int .i64 h.images)).setCell ⟨g2, 4, none⟩ (.int .i64 h.sLo)).setCell ⟨g2, 5, none⟩ (.int .i64 h.sHi)).setCell ⟨g2, 6, none⟩ (.slice h.sa h.ns h.scap)) = X3 at *
      refine hK _ _ (hSG.out _ hB3) ?_
      clear hK K hB2 h3_2 h2_2
      (try simp only [Act.put, List.setIfInBounds_toArray, List.set_cons_zero, List.set_cons_succ])
      refine tr_last rfl (by rfl) (by kernel_rfl) (fun K hK => ?_)
      obtain ⟨u0_4, q0_4, f0_4⟩ := h3_3.get 0 (by omega)
      obtain ⟨u1_4, q1_4, f1_4⟩ := h3_3.get 1 (by omega)
      obtain ⟨u2_4, q2_4, f2_4⟩ := h3_3.get 2 (by omega)
      obtain ⟨u3_4, q3_4, f3_4⟩ := h3_3.get 3 (by omega)
      obtain ⟨u4_4, q4_4, f4_4⟩ := h3_3.get 4 (by omega)
      obtain ⟨u5_4, q5_4, f5_4⟩ := h3_3.get 5 (by omega)
      obtain ⟨u6_4, q6_4, f6_4⟩ := h3_3.get 6 (by omega)
      have hB4 := (BC (BC (BC (BC (BC (BC (BC hB3 g3 0 hg3 (.slice h.a h.n h.cap)) g3 1 hg3 (.int .i64 h.eLo)) g3 2 hg3 (.int .i64 h.eHi)) g3 3 hg3 (.int .i64 h.images)) g3 4 hg3 (.int .i64 h.sLo)) g3 5 hg3 (.int .i64 h.sHi)) g3 6 hg3 (.slice h.sa h.ns h.scap))
      have h2_4 := h2_3.far7 (g' := g3) (by omega) h
      have h3_4 := box_put7 h3_3 h
      unfold put7 at *
      go_simp
      clear q0_4 f0_4 q1_4 f1_4 q2_4 f2_4 q3_4 f3_4 q4_4 f4_4 q5_4 f5_4 q6_4 f6_4
      generalize (((((((X3.setCell ⟨g3, 0, none⟩ (.slice h.a h.n h.cap)).setCell ⟨g3, 1, none⟩ (.int .i64 h.eLo)).setCell ⟨g3, 2, none⟩ (.int .i64 h.eHi)).setCell ⟨g3, 3, none⟩ (.int .i64 h.images)).setCell ⟨g3, 4, none⟩ (.int .i64 h.sLo)).setCell ⟨g3, 5, none⟩ (.int .i64 h.sHi)).setCell ⟨g3, 6, none⟩ (.slice h.sa h.ns h.scap)) = X4 at *
      refine hK _ _ ?_
      clear hK K hB3 h2_3 h3_3
      (try simp only [Act.put, List.setIfInBounds_toArray, List.set_cons_zero, List.set_cons_succ])
      show Exit.then _ _ Exit.normal _ _
      go_wp2_with fail
      go_meet
      exact ⟨g2, g3, rfl, rfl, h2_4, h3_4, by omega, hg2, hg3, hB4⟩
    · skip
      refine tr_step rfl (by rfl) (fun K hK => ?_)
      have hB5 := BA hB0 (.cells #[.slice none 0 0, .int .i64 0, .int .i64 0, .int .i64 0, .int .i64 0, .int .i64 0, .slice none 0 0] 29)
      have h3_5 := slots_new7 X0 29
      have hg3 := hB0.size
      go_simp
      generalize X0.heap.size = g3 at *
      generalize X0.alloc (.cells #[.slice none 0 0, .int .i64 0, .int .i64 0, .int .i64 0, .int .i64 0, .int .i64 0, .slice none 0 0] 29) = X5 at *
      refine hK _ _ (hSG.out _ hB5) ?_
      clear hK K hB0 
      (try simp only [Act.put, List.setIfInBounds_toArray, List.set_cons_zero, List.set_cons_succ])
      refine tr_step rfl (by rfl) (fun K hK => ?_)
      have hB6 := BA hB5 (.cells #[.slice none 0 0, .int .i64 0, .int .i64 0, .int .i64 0, .int .i64 0, .int .i64 0, .slice none 0 0] 29)
      have h3_6 := h3_5.below (newB X5 (.cells #[.slice none 0 0, .int .i64 0, .int .i64 0, .int .i64 0, .int .i64 0, .int .i64 0, .slice none 0 0] 29)) (h3_5.lt7)
      have hlt3_6 := h3_5.lt7
      have h2_6 := slots_new7 X5 29
      have hg2 := hB5.size
      go_simp
      generalize X5.heap.size = g2 at *
      generalize X5.alloc (.cells #[.slice none 0 0, .int .i64 0, .int .i64 0, .int .i64 0, .int .i64 0, .int .i64 0, .slice none 0 0] 29) = X6 at *
      refine hK _ _ (hSG.out _ hB6) ?_
      clear hK K hB5 h3_5
      (try simp only [Act.put, List.setIfInBounds_toArray, List.set_cons_zero, List.set_cons_succ])
      refine tr_step rfl (by rfl) (fun K hK => ?_)
      obtain ⟨u0_7, q0_7, f0_7⟩ := h2_6.get 0 (by omega)
      obtain ⟨u1_7, q1_7, f1_7⟩ := h2_6.get 1 (by omega)
      obtain ⟨u2_7, q2_7, f2_7⟩ := h2_6.get 2 (by omega)
      obtain ⟨u3_7, q3_7, f3_7⟩ := h2_6.get 3 (by omega)
      obtain ⟨u4_7, q4_7, f4_7⟩ := h2_6.get 4 (by omega)
      obtain ⟨u5_7, q5_7, f5_7⟩ := h2_6.get 5 (by omega)
      obtain ⟨u6_7, q6_7, f6_7⟩ := h2_6.get 6 (by omega)
      have hB7 := (BC (BC (BC (BC (BC (BC (BC hB6 g2 0 hg2 (.slice h.a h.n h.cap)) g2 1 hg2 (.int .i64 h.eLo)) g2 2 hg2 (.int .i64 h.eHi)) g2 3 hg2 (.int .i64 h.images)) g2 4 hg2 (.int .i64 h.sLo)) g2 5 hg2 (.int .i64 h.sHi)) g2 6 hg2 (.slice h.sa h.ns h.scap))
      have h3_7 := h3_6.far7 (g' := g2) (by omega) h
      have h2_7 := box_put7 h2_6 h
      unfold put7 at *
      go_simp
      clear q0_7 f0_7 q1_7 f1_7 q2_7 f2_7 q3_7 f3_7 q4_7 f4_7 q5_7 f5_7 q6_7 f6_7
      generalize (((((((X6.setCell ⟨g2, 0, none⟩ (.slice h.a h.n h.cap)).setCell ⟨g2, 1, none⟩ (.int .i64 h.eLo)).setCell ⟨g2, 2, none⟩ (.int .i64 h.eHi)).setCell ⟨g2, 3, none⟩ (.int .i64 h.images)).setCell ⟨g2, 4, none⟩ (.int .i64 h.sLo)).setCell ⟨g2, 5, none⟩ (.int .i64 h.sHi)).setCell ⟨g2, 6, none⟩ (.slice h.sa h.ns h.scap)) = X7 at *
      refine hK _ _ (hSG.out _ hB7) ?_
      clear hK K hB6 h3_6 h2_6
      (try simp only [Act.put, List.setIfInBounds_toArray, List.set_cons_zero, List.set_cons_succ])
      refine tr_last rfl (by rfl) (by kernel_rfl) (fun K hK => ?_)
      obtain ⟨u0_8, q0_8, f0_8⟩ := h3_7.get 0 (by omega)
      obtain ⟨u1_8, q1_8, f1_8⟩ := h3_7.get 1 (by omega)
      obtain ⟨u2_8, q2_8, f2_8⟩ := h3_7.get 2 (by omega)
      obtain ⟨u3_8, q3_8, f3_8⟩ := h3_7.get 3 (by omega)
      obtain ⟨u4_8, q4_8, f4_8⟩ := h3_7.get 4 (by omega)
      obtain ⟨u5_8, q5_8, f5_8⟩ := h3_7.get 5 (by omega)
      obtain ⟨u6_8, q6_8, f6_8⟩ := h3_7.get 6 (by omega)
      have hB8 := (BC (BC (BC (BC (BC (BC (BC hB7 g3 0 hg3 (.slice h.a h.n h.cap)) g3 1 hg3 (.int .i64 h.eLo)) g3 2 hg3 (.int .i64 h.eHi)) g3 3 hg3 (.int .i64 h.images)) g3 4 hg3 (.int .i64 h.sLo)) g3 5 hg3 (.int .i64 h.sHi)) g3 6 hg3 (.slice h.sa h.ns h.scap))
      have h2_8 := h2_7.far7 (g' := g3) (by omega) h
      have h3_8 := box_put7 h3_7 h
      unfold put7 at *
      go_simp
      clear q0_8 f0_8 q1_8 f1_8 q2_8 f2_8 q3_8 f3_8 q4_8 f4_8 q5_8 f5_8 q6_8 f6_8
      generalize (((((((X7.setCell ⟨g3, 0, none⟩ (.slice h.a h.n h.cap)).setCell ⟨g3, 1, none⟩ (.int .i64 h.eLo)).setCell ⟨g3, 2, none⟩ (.int .i64 h.eHi)).setCell ⟨g3, 3, none⟩ (.int .i64 h.images)).setCell ⟨g3, 4, none⟩ (.int .i64 h.sLo)).setCell ⟨g3, 5, none⟩ (.int .i64 h.sHi)).setCell ⟨g3, 6, none⟩ (.slice h.sa h.ns h.scap)) = X8 at *
      refine hK _ _ ?_
      clear hK K hB7 h2_7 h3_7
      (try simp only [Act.put, List.setIfInBounds_toArray, List.set_cons_zero, List.set_cons_succ])
      show Exit.then _ _ Exit.normal _ _
      go_wp2_with fail
      go_meet
      exact ⟨g2, g3, rfl, rfl, h2_8, h3_8, by omega, hg2, hg3, hB8⟩
  case rest =>
    obtain ⟨g11, g12, rfl, rfl, b11, b12, hne, hg11, hg12, hb3⟩ := hcut
    obtain ⟨w4, rfl⟩ : ∃ w4 : World, w4 = wc := ⟨_, rfl⟩
    have HX11 := Lib.hid ((b11.toV (.slice none 0 0)).far hne 6 (.slice none 0 0))
    have HX12 := Lib.hid ((show Box7 (w4.setCell ⟨g11, 6, none⟩ (.slice none 0 0)) g12 h from ⟨b12.box.bx (BX.set g11 6 w4 _) (Ne.symm hne), b12.slots.set _ _⟩).toV (.slice none 0 0))
    obtain ⟨u1, p1, f1⟩ := b11.slots.get 6 (by omega)
    obtain ⟨u2, p2, f2⟩ := b12.slots.get 6 (by omega)
    have hb5 : Below w3.heap.size w3 ((w4.setCell ⟨g11, 6, none⟩ (.slice none 0 0)).setCell ⟨g12, 6, none⟩ (.slice none 0 0)) := BC (BC hb3 g11 6 hg11 _) g12 6 hg12 _
    clear b11 b12 hB0 hSG hBX hb3
    go_upto_region 7 with fail
    clear p1 f1 p2 f2
    generalize (w4.setCell ⟨g11, 6, none⟩ (.slice none 0 0)).setCell ⟨g12, 6, none⟩ (.slice none 0 0) = w5 at HX11 HX12 hb5 ⊢
    obtain ⟨c0, c1, c2, c3, c4, c5, c6, hh⟩ := HB3.out.grown hb5
    clear hh
    go_upto_region 8 with fail
    clear c0 c1 c2 c3 c4 c5 c6
    have hl11 : g11 < w5.heap.size := HX11.out.lt
    have hl12 : g12 < w5.heap.size := HX12.out.lt
    have HNl : Hid ((yS h.images y ss).length = ss.length) := by show _ = _; simp [yS]
    have HFl : Hid ((flipS ss).length = ss.length) := by show _ = _; simp [flipS]
    go_loopw [76] (fun i wr => ∃ (k : Nat) (vx vy : Value), k ≤ h.ns ∧ i = .int .i64 k ∧ Hid (BoxV wr g11 h vx) ∧ Hid (BoxV wr g12 h vy) ∧ Hid (R2 w5.heap.size wr vx vy k k ((flipS ss).take k) ((yS h.images y ss).take k)) ∧ Below w3.heap.size w3 wr ∧ w5.heap.size ≤ wr.heap.size) (fun i _ => h.ns - (intOf i).toNat)
    case atStart => exact ⟨0, _, _, by omega, rfl, HX11, HX12, R2.nil _ _, hb5, Nat.le_refl _⟩
    case round =>
      obtain ⟨k, vx, vy, hk, rfl, hx, hyv, hr2, hbr, hsz⟩ := hrel
      have hk0 : (0 : Int) ≤ (k : Int) := by omega
      have HBR := Lib.hid (HB3.out.grown hbr)
      have ht3 := cellB HS3.out hbr
      have hn3 := cellB HN3.out hbr
      by_cases hlt : k < h.ns
      · rcases HBR.out.has.st with hnil | ⟨b', ofs, hsa, hb', hc⟩
        · exfalso; have := HNS.out; rw [hnil] at this; simp at this; omega
        · have hkl : k < ss.length := by rw [HNS.out]; exact hlt
          obtain ⟨j, hj⟩ : ∃ j : Nat, h.ns - 1 - k = j := ⟨_, rfl⟩
          have hjl : j < ss.length := by rw [HNS.out]; omega
          have ej : (h.ns : Int) - 1 - (k : Int) = (j : Int) := by omega
          have hj0 : (0 : Int) ≤ (j : Int) := by omega
          have hjn : j < h.ns := by omega
          obtain ⟨d0, d1, d2, _⟩ := hc k hkl
          obtain ⟨e0, e1, e2, _⟩ := hc j hjl
          have HFT := Lib.hid (flip_take hkl)
          have HYT := Lib.hid (y_take (N := h.images) (u := y) hkl (show ss.length - 1 - k = j by rw [HNS.out]; exact hj))
          have hvj := (HVS.out (ss.getD j (0, 0, false)) (by simp [List.getD, hjl])).1
          obtain ⟨c0, c1, c2, c3, c4, c5, c6, hh⟩ := HBR.out
          rw [hsa] at c6 ⊢
          clear hc hh hj hsa
          generalize ss.getD k (0, 0, false) = s at d0 d1 d2 HFT
          generalize ss.getD j (0, 0, false) = t at e0 e1 e2 HYT hvj
          obtain ⟨im, rd, rv⟩ := s
          obtain ⟨im2, rd2, rv2⟩ := t
          dsimp only at d0 d1 d2 e0 e1 e2 hvj HFT HYT
          have hW2 : Below wr.heap.size wr ((wr.alloc (.cells #[.int .i64 im, .int .i64 rd, .bool rv] 44)).alloc (.cells #[.int .i64 im2, .int .i64 rd2, .bool rv2] 44)) := by (repeat (first | assumption | exact Below.refl _ _ | refine BA ?_ _ | refine BC ?_ _ _ (by omega) _ | refine Below.drew ?_ | refine BT ?_ (by assumption)))
          have s14 := (three_new wr im rd rv).below (newB (wr.alloc (.cells #[.int .i64 im, .int .i64 rd, .bool rv] 44)) (.cells #[.int .i64 im2, .int .i64 rd2, .bool rv2] 44)) (by simp)
          have s15 := three_new (wr.alloc (.cells #[.int .i64 im, .int .i64 rd, .bool rv] 44)) im2 rd2 rv2
          have x0 : ((wr.alloc (.cells #[.int .i64 im, .int .i64 rd, .bool rv] 44)).alloc (.cells #[.int .i64 im2, .int .i64 rd2, .bool rv2] 44)).cell? ⟨wr.heap.size, 0, none⟩ = some (.int .i64 im) := by simp [go_sem]
          have x1 : ((wr.alloc (.cells #[.int .i64 im, .int .i64 rd, .bool rv] 44)).alloc (.cells #[.int .i64 im2, .int .i64 rd2, .bool rv2] 44)).cell? ⟨wr.heap.size, 1, none⟩ = some (.int .i64 rd) := by simp [go_sem]
          have x2 : ((wr.alloc (.cells #[.int .i64 im, .int .i64 rd, .bool rv] 44)).alloc (.cells #[.int .i64 im2, .int .i64 rd2, .bool rv2] 44)).cell? ⟨wr.heap.size, 2, none⟩ = some (.bool rv) := by simp [go_sem]
          have y0 : ((wr.alloc (.cells #[.int .i64 im, .int .i64 rd, .bool rv] 44)).alloc (.cells #[.int .i64 im2, .int .i64 rd2, .bool rv2] 44)).cell? ⟨wr.heap.size + 1, 0, none⟩ = some (.int .i64 im2) := by simp [go_sem]
          have y1 : ((wr.alloc (.cells #[.int .i64 im, .int .i64 rd, .bool rv] 44)).alloc (.cells #[.int .i64 im2, .int .i64 rd2, .bool rv2] 44)).cell? ⟨wr.heap.size + 1, 1, none⟩ = some (.int .i64 rd2) := by simp [go_sem]
          have y2 : ((wr.alloc (.cells #[.int .i64 im, .int .i64 rd, .bool rv] 44)).alloc (.cells #[.int .i64 im2, .int .i64 rd2, .bool rv2] 44)).cell? ⟨wr.heap.size + 1, 2, none⟩ = some (.bool rv2) := by simp [go_sem]
          have hz15 : wr.heap.size + 1 < ((wr.alloc (.cells #[.int .i64 im, .int .i64 rd, .bool rv] 44)).alloc (.cells #[.int .i64 im2, .int .i64 rd2, .bool rv2] 44)).heap.size := by simp
          have hBlt : B < wr.heap.size := World.block_lt_of_cell? _ _ HBR.out.c0
          have hTlt : B + 1 < wr.heap.size := World.block_lt_of_cell? _ _ ht3
          have hglt : g10 < wr.heap.size := World.block_lt_of_cell? _ _ hn3
          have hne10 : ¬ g10 = wr.heap.size := by omega
          go_upto_region 11 with fail
          simp only [World.size_alloc] at s15
          clear d0 d1 d2 e0 e1 e2 c0 c1 c2 c3 c4 c5 c6
          have hnum := num44_any B (B + 1) im2 y h.images _ (cellB ht3 hW2) (cellB HBR.out.c3 hW2) (by have := HVI.out; omega) ⟨hy0, hy1⟩ HVI.out
          have hgw : wr.heap.size ≤ wr.heap.size := Nat.le_refl _
          have hrl : ∀ b, vx.ownBlock = some b → b < wr.heap.size := fun b hb => (hr2.out.rx.lt b hb).2
          have hrm : ∀ b, vy.ownBlock = some b → b < wr.heap.size := fun b hb => (hr2.out.ry.lt b hb).2
          obtain ⟨g14, hg14⟩ : ∃ g : Nat, g = wr.heap.size := ⟨_, rfl⟩
          rw [← hg14] at s14 s15 x0 x1 x2 y0 y1 y2 hz15 ⊢
          generalize (wr.alloc (.cells #[.int .i64 im, .int .i64 rd, .bool rv] 44)).alloc (.cells #[.int .i64 im2, .int .i64 rd2, .bool rv2] 44) = R0 at s14 s15 x0 x1 x2 y0 y1 y2 hz15 hW2 hnum ⊢
          have hge : wr.heap.size ≤ g14 := by omega
          clear hg14
          go_wp2_with fail
          refine hnum.mono ?_
          rintro e R1 ⟨rfl, hr1⟩
          generalize numI h.images y im2 = nm at HYT ⊢
          have l15 := hz15
          have t14 := s14.below hr1 (by omega)
          have t15 := s15.below hr1 (by omega)
          have x0 := cellB x0 hr1
          have x1 := cellB x1 hr1
          have x2 := cellB x2 hr1
          have y0 := cellB y0 hr1
          have y1 := cellB y1 hr1
          have y2 := cellB y2 hr1
          obtain ⟨ua, pa, fa⟩ := t15.get 0 (by omega)
          obtain ⟨ub, pb, fb⟩ := t14.get 2 (by omega)
          have hW3 : Below wr.heap.size wr ((R1.setCell ⟨g14 + 1, 0, none⟩ (.int .i64 nm)).setCell ⟨g14, 2, none⟩ (.bool (!rv))) := BC (BC (BT hW2 hr1) (g14 + 1) 0 (by omega) _) g14 2 (by omega) _
          have hws : WS w3 w5.heap.size ((R1.setCell ⟨g14 + 1, 0, none⟩ (.int .i64 nm)).setCell ⟨g14, 2, none⟩ (.bool (!rv))) g11 g12 g14 (g14 + 1) h vx vy vx vy k k _ _ (im, rd, !rv) (nm, rd2, rv2) :=
            ⟨hx.out.grown hW3, hyv.out.grown hW3, by simp [go_sem, x0], by simp [go_sem, x1], by simp [go_sem, x2], by simp [go_sem, y0], by simp [go_sem, y1], by simp [go_sem, y2], hr2.out.kept (grownBy_below hW3), BT hbr hW3, Nat.le_trans hsz hW3.size, hb5.size, hl11, hl12,
              fun b hb => by have := hrl b hb; omega, fun b hb => by have := hrm b hb; omega⟩
          clear hnum s14 s15 t14 t15 hz15 hgw
          go_upto_region 13 with fail
          clear pa fa pb fb x0 x1 x2 y0 y1 y2
          generalize (R1.setCell ⟨g14 + 1, 0, none⟩ (.int .i64 nm)).setCell ⟨g14, 2, none⟩ (.bool (!rv)) = Z0 at hws ⊢
          have hwd := hws.drew
          clear hx hyv hr2 hbr hsz HBR ht3 hn3
          refine wp_region_treeF [0, 1, 2, 5, 6, 7, 10] (.read 0 (.read 1 (.read 2 (.read 5 (.read 6 (.read 7 (.two 3 (.two 4 (.read 10 (.one 8 (.one 9 (.one 11 (.one 12 (.one 13 (.leaf))))))) 8 (.one 4 (.read 10 (.one 9 (.one 11 (.one 12 (.one 13 (.leaf)))))))) 8 (.one 3 (.one 4 (.read 10 (.one 9 (.one 11 (.one 12 (.one 13 (.leaf))))))))))))))) (fun w' => w'.cell? ⟨g11, 6, none⟩ = some vx ∧ w'.cell? ⟨g12, 6, none⟩ = some vy ∧ w'.cell? ⟨g14, 0, none⟩ = some (.int .i64 im) ∧ w'.cell? ⟨g14, 1, none⟩ = some (.int .i64 rd) ∧ w'.cell? ⟨g14, 2, none⟩ = some (.bool (!rv)) ∧ w'.cell? ⟨g14 + 1, 0, none⟩ = some (.int .i64 nm) ∧ w'.cell? ⟨g14 + 1, 1, none⟩ = some (.int .i64 rd2) ∧ w'.cell? ⟨g14 + 1, 2, none⟩ = some (.bool rv2)) (by kernel_rfl) (by kernel_rfl) (fun _ _ d _ _ h => by cases d <;> exact h) hwd.sp ?_
          generalize Z0.drew = X0 at hwd ⊢
          repeat (first | (refine trF_read rfl (by rfl) _ (fun w' hS => by (try dsimp only at hS); go_simp; (try with_reducible rfl)) ?_; (try simp only [Act.put, List.setIfInBounds_toArray, List.set_cons_zero, List.set_cons_succ])) | (refine trF_skip rfl (by rfl) ?_; (try simp only [Act.put, List.setIfInBounds_toArray, List.set_cons_zero, List.set_cons_succ])))
          refine ⟨?_, ?_⟩
          · skip
            refine trF_step rfl (by rfl) (fun K hK => ?_)
            have hw1 := hwd.grown (newB X0 (.cells #[.int .i64 im, .int .i64 rd, .bool (!rv)] 44))
            have hx1 : ∀ j u, (settV (im, rd, !rv))[j]? = some u → (X0.alloc (.cells #[.int .i64 im, .int .i64 rd, .bool (!rv)] 44)).cell? ((⟨X0.heap.size, 0, none⟩ : Addr).add j) = some u := World.news_of_block (heap_alloc_new X0 _)
            have hpxx : ∀ b, vx.ownBlock = some b → b < X0.heap.size := fun b hb => (hwd.r.rx.lt b hb).2
            go_simp
            generalize X0.heap.size = gx at hx1 hpxx ⊢
            generalize X0.alloc (.cells #[.int .i64 im, .int .i64 rd, .bool (!rv)] 44) = X1 at hw1 hx1 ⊢
            refine hK _ _ hw1.sp ?_
            clear hK K
            (try simp only [Act.put, List.setIfInBounds_toArray, List.set_cons_zero, List.set_cons_succ])
            refine ⟨?_, ?_⟩
            · skip
              refine trF_step rfl (by rfl) (fun K hK => ?_)
              refine wp_put_x (.tmp 99) (.tmp 101) rfl hw1.r (by rfl) gx (by rfl) (im, rd, !rv) hx1 (by omega) hw1.sz ?_
              intro gp capx X2 hr2 hg2 hB2 ho2
              have hw2 := hw1.putx hr2 hg2 hB2 ho2
              refine hK _ _ hw2.sp ?_
              clear hK K
              (try simp only [Act.put, List.setIfInBounds_toArray, List.set_cons_zero, List.set_cons_succ])
              repeat (first | (refine trF_read rfl (by rfl) _ (fun w' hS => by (try dsimp only at hS); go_simp; (try with_reducible rfl)) ?_; (try simp only [Act.put, List.setIfInBounds_toArray, List.set_cons_zero, List.set_cons_succ])) | (refine trF_skip rfl (by rfl) ?_; (try simp only [Act.put, List.setIfInBounds_toArray, List.set_cons_zero, List.set_cons_succ])))
              refine trF_step rfl (by rfl) (fun K hK => ?_)
              have hw3 := hw2.grown (newB X2 (.cells #[.int .i64 nm, .int .i64 rd2, .bool rv2] 44))
              have hy3 : ∀ j u, (settV (nm, rd2, rv2))[j]? = some u → (X2.alloc (.cells #[.int .i64 nm, .int .i64 rd2, .bool rv2] 44)).cell? ((⟨X2.heap.size, 0, none⟩ : Addr).add j) = some u := World.news_of_block (heap_alloc_new X2 _)
              go_simp
              generalize X2.heap.size = gy at hy3 ⊢
              generalize X2.alloc (.cells #[.int .i64 nm, .int .i64 rd2, .bool rv2] 44) = X3 at hw3 hy3 ⊢
              refine hK _ _ hw3.sp ?_
              clear hK K
              (try simp only [Act.put, List.setIfInBounds_toArray, List.set_cons_zero, List.set_cons_succ])
              refine trF_step rfl (by rfl) (fun K hK => ?_)
              refine wp_put_y (.tmp 104) (.tmp 106) rfl hw3.r (by rfl) gy (by rfl) (nm, rd2, rv2) hy3 (by omega) hw3.sz ?_
              intro gq capy X4 hr4 hg4 hB4 ho4
              have hw4 := hw3.puty hr4 hg4 hB4 ho4
              refine hK _ _ hw4.sp ?_
              clear hK K
              (try simp only [Act.put, List.setIfInBounds_toArray, List.set_cons_zero, List.set_cons_succ])
              repeat (first | (refine trF_read rfl (by rfl) _ (fun w' hS => by (try dsimp only at hS); go_simp; (try with_reducible rfl)) ?_; (try simp only [Act.put, List.setIfInBounds_toArray, List.set_cons_zero, List.set_cons_succ])) | (refine trF_skip rfl (by rfl) ?_; (try simp only [Act.put, List.setIfInBounds_toArray, List.set_cons_zero, List.set_cons_succ])))
              refine trF_late rfl (by rfl) (by kernel_rfl) (fun K hK => ?_)
              obtain ⟨u6, q6, f6⟩ := hw4.b1.sl.get 6 (by omega)
              obtain ⟨u7, q7, f7⟩ := hw4.b2.sl.get 6 (by omega)
              go_simp
              refine hK _ _ ?_
              clear hK K
              (try simp only [Act.put, List.setIfInBounds_toArray, List.set_cons_zero, List.set_cons_succ])
              refine trF_late rfl (by rfl) (by kernel_rfl) (fun K hK => ?_)
              go_simp
              refine hK _ _ ?_
              clear hK K
              (try simp only [Act.put, List.setIfInBounds_toArray, List.set_cons_zero, List.set_cons_succ])
              refine trF_late rfl (by rfl) (by kernel_rfl) (fun K hK => ?_)
              go_simp
              refine hK _ _ ?_
              clear hK K q6 f6 q7 f7
              (try simp only [Act.put, List.setIfInBounds_toArray, List.set_cons_zero, List.set_cons_succ])
              have hf1 := Lib.hid ((hw4.b1.put (.slice (some ⟨gp, 0, none⟩) (k + 1) capx)).far hne 6 (.slice (some ⟨gq, 0, none⟩) (k + 1) capy))
              have hf2 := Lib.hid ((hw4.b2.far (Ne.symm hne) 6 (.slice (some ⟨gp, 0, none⟩) (k + 1) capx)).put (.slice (some ⟨gq, 0, none⟩) (k + 1) capy))
              have hf3 := Lib.hid ((hw4.r.set ⟨g11, 6, none⟩ hw4.f1 (.slice (some ⟨gp, 0, none⟩) (k + 1) capx)).set ⟨g12, 6, none⟩ hw4.f2 (.slice (some ⟨gq, 0, none⟩) (k + 1) capy))
              have hf4 : Below w3.heap.size w3 ((X4.setCell ⟨g11, 6, none⟩ (.slice (some ⟨gp, 0, none⟩) (k + 1) capx)).setCell ⟨g12, 6, none⟩ (.slice (some ⟨gq, 0, none⟩) (k + 1) capy)) := BC (BC hw4.bel g11 6 hg11 _) g12 6 hg12 _
              have hf5 : w5.heap.size ≤ ((X4.setCell ⟨g11, 6, none⟩ (.slice (some ⟨gp, 0, none⟩) (k + 1) capx)).setCell ⟨g12, 6, none⟩ (.slice (some ⟨gq, 0, none⟩) (k + 1) capy)).heap.size := by simp; exact hw4.sz
              generalize (X4.setCell ⟨g11, 6, none⟩ (.slice (some ⟨gp, 0, none⟩) (k + 1) capx)).setCell ⟨g12, 6, none⟩ (.slice (some ⟨gq, 0, none⟩) (k + 1) capy) = XZ at hf1 hf2 hf3 hf4 hf5 ⊢
              show Exit.inBlock _ _ Exit.normal _ _
              go_wp2
              go_roundw
              case rel => exact ⟨k + 1, _, _, by omega, by go_num, hf1, hf2, by show R2 _ _ _ _ _ _ _ _; rw [HFT.out, HYT.out]; exact hf3.out, hf4, hf5⟩
              case measure => simp [intOf]; omega
            · skip
              refine trF_step rfl (by rfl) (fun K hK => ?_)
              have hw2 := hw1.grown (newB X1 (.cells #[.int .i64 nm, .int .i64 rd2, .bool rv2] 44))
              have hy2 : ∀ j u, (settV (nm, rd2, rv2))[j]? = some u → (X1.alloc (.cells #[.int .i64 nm, .int .i64 rd2, .bool rv2] 44)).cell? ((⟨X1.heap.size, 0, none⟩ : Addr).add j) = some u := World.news_of_block (heap_alloc_new X1 _)
              have hpxy : ∀ b, vx.ownBlock = some b → b < X1.heap.size := fun b hb => (hw1.r.rx.lt b hb).2
              have hx2 : ∀ j u, (settV (im, rd, !rv))[j]? = some u → (X1.alloc (.cells #[.int .i64 nm, .int .i64 rd2, .bool rv2] 44)).cell? ((⟨gx, 0, none⟩ : Addr).add j) = some u := fun j u hj => cellB (hx1 j u hj) (newB X1 _)
              go_simp
              generalize X1.heap.size = gy at hy2 hpxy ⊢
              generalize X1.alloc (.cells #[.int .i64 nm, .int .i64 rd2, .bool rv2] 44) = X2 at hw2 hy2 hx2 ⊢
              refine hK _ _ hw2.sp ?_
              clear hK K
              (try simp only [Act.put, List.setIfInBounds_toArray, List.set_cons_zero, List.set_cons_succ])
              refine trF_step rfl (by rfl) (fun K hK => ?_)
              refine wp_put_x (.tmp 99) (.tmp 101) rfl hw2.r (by rfl) gx (by rfl) (im, rd, !rv) hx2 (by omega) hw2.sz ?_
              intro gp capx X3 hr3 hg3 hB3 ho3
              have hw3 := hw2.putx hr3 hg3 hB3 ho3
              have hy3 : ∀ j u, (settV (nm, rd2, rv2))[j]? = some u → X3.cell? ((⟨gy, 0, none⟩ : Addr).add j) = some u := fun j u hj => hg3.cell (hy2 j u hj) (by rw [add_block2]; exact fun e => Nat.lt_irrefl _ (hpxy _ e.symm))
              refine hK _ _ hw3.sp ?_
              clear hK K
              (try simp only [Act.put, List.setIfInBounds_toArray, List.set_cons_zero, List.set_cons_succ])
              repeat (first | (refine trF_read rfl (by rfl) _ (fun w' hS => by (try dsimp only at hS); go_simp; (try with_reducible rfl)) ?_; (try simp only [Act.put, List.setIfInBounds_toArray, List.set_cons_zero, List.set_cons_succ])) | (refine trF_skip rfl (by rfl) ?_; (try simp only [Act.put, List.setIfInBounds_toArray, List.set_cons_zero, List.set_cons_succ])))
              refine trF_step rfl (by rfl) (fun K hK => ?_)
              refine wp_put_y (.tmp 104) (.tmp 106) rfl hw3.r (by rfl) gy (by rfl) (nm, rd2, rv2) hy3 (by omega) hw3.sz ?_
              intro gq capy X4 hr4 hg4 hB4 ho4
              have hw4 := hw3.puty hr4 hg4 hB4 ho4
              refine hK _ _ hw4.sp ?_
              clear hK K
              (try simp only [Act.put, List.setIfInBounds_toArray, List.set_cons_zero, List.set_cons_succ])
              repeat (first | (refine trF_read rfl (by rfl) _ (fun w' hS => by (try dsimp only at hS); go_simp; (try with_reducible rfl)) ?_; (try simp only [Act.put, List.setIfInBounds_toArray, List.set_cons_zero, List.set_cons_succ])) | (refine trF_skip rfl (by rfl) ?_; (try simp only [Act.put, List.setIfInBounds_toArray, List.set_cons_zero, List.set_cons_succ])))
              refine trF_late rfl (by rfl) (by kernel_rfl) (fun K hK => ?_)
              obtain ⟨u6, q6, f6⟩ := hw4.b1.sl.get 6 (by omega)
              obtain ⟨u7, q7, f7⟩ := hw4.b2.sl.get 6 (by omega)
              go_simp
              refine hK _ _ ?_
              clear hK K
              (try simp only [Act.put, List.setIfInBounds_toArray, List.set_cons_zero, List.set_cons_succ])
              refine trF_late rfl (by rfl) (by kernel_rfl) (fun K hK => ?_)
              go_simp
              refine hK _ _ ?_
              clear hK K
              (try simp only [Act.put, List.setIfInBounds_toArray, List.set_cons_zero, List.set_cons_succ])
              refine trF_late rfl (by rfl) (by kernel_rfl) (fun K hK => ?_)
              go_simp
              refine hK _ _ ?_
              clear hK K q6 f6 q7 f7
              (try simp only [Act.put, List.setIfInBounds_toArray, List.set_cons_zero, List.set_cons_succ])
              have hf1 := Lib.hid ((hw4.b1.put (.slice (some ⟨gp, 0, none⟩) (k + 1) capx)).far hne 6 (.slice (some ⟨gq, 0, none⟩) (k + 1) capy))
              have hf2 := Lib.hid ((hw4.b2.far (Ne.symm hne) 6 (.slice (some ⟨gp, 0, none⟩) (k + 1) capx)).put (.slice (some ⟨gq, 0, none⟩) (k + 1) capy))
              have hf3 := Lib.hid ((hw4.r.set ⟨g11, 6, none⟩ hw4.f1 (.slice (some ⟨gp, 0, none⟩) (k + 1) capx)).set ⟨g12, 6, none⟩ hw4.f2 (.slice (some ⟨gq, 0, none⟩) (k + 1) capy))
              have hf4 : Below w3.heap.size w3 ((X4.setCell ⟨g11, 6, none⟩ (.slice (some ⟨gp, 0, none⟩) (k + 1) capx)).setCell ⟨g12, 6, none⟩ (.slice (some ⟨gq, 0, none⟩) (k + 1) capy)) := BC (BC hw4.bel g11 6 hg11 _) g12 6 hg12 _
              have hf5 : w5.heap.size ≤ ((X4.setCell ⟨g11, 6, none⟩ (.slice (some ⟨gp, 0, none⟩) (k + 1) capx)).setCell ⟨g12, 6, none⟩ (.slice (some ⟨gq, 0, none⟩) (k + 1) capy)).heap.size := by simp; exact hw4.sz
              generalize (X4.setCell ⟨g11, 6, none⟩ (.slice (some ⟨gp, 0, none⟩) (k + 1) capx)).setCell ⟨g12, 6, none⟩ (.slice (some ⟨gq, 0, none⟩) (k + 1) capy) = XZ at hf1 hf2 hf3 hf4 hf5 ⊢
              show Exit.inBlock _ _ Exit.normal _ _
              go_wp2
              go_roundw
              case rel => exact ⟨k + 1, _, _, by omega, by go_num, hf1, hf2, by show R2 _ _ _ _ _ _ _ _; rw [HFT.out, HYT.out]; exact hf3.out, hf4, hf5⟩
              case measure => simp [intOf]; omega
          · skip
            refine trF_step rfl (by rfl) (fun K hK => ?_)
            have hw1 := hwd.grown (newB X0 (.cells #[.int .i64 nm, .int .i64 rd2, .bool rv2] 44))
            have hy1 : ∀ j u, (settV (nm, rd2, rv2))[j]? = some u → (X0.alloc (.cells #[.int .i64 nm, .int .i64 rd2, .bool rv2] 44)).cell? ((⟨X0.heap.size, 0, none⟩ : Addr).add j) = some u := World.news_of_block (heap_alloc_new X0 _)
            have hpxy : ∀ b, vx.ownBlock = some b → b < X0.heap.size := fun b hb => (hwd.r.rx.lt b hb).2
            go_simp
            generalize X0.heap.size = gy at hy1 hpxy ⊢
            generalize X0.alloc (.cells #[.int .i64 nm, .int .i64 rd2, .bool rv2] 44) = X1 at hw1 hy1 ⊢
            refine hK _ _ hw1.sp ?_
            clear hK K
            (try simp only [Act.put, List.setIfInBounds_toArray, List.set_cons_zero, List.set_cons_succ])
            refine trF_step rfl (by rfl) (fun K hK => ?_)
            have hw2 := hw1.grown (newB X1 (.cells #[.int .i64 im, .int .i64 rd, .bool (!rv)] 44))
            have hx2 : ∀ j u, (settV (im, rd, !rv))[j]? = some u → (X1.alloc (.cells #[.int .i64 im, .int .i64 rd, .bool (!rv)] 44)).cell? ((⟨X1.heap.size, 0, none⟩ : Addr).add j) = some u := World.news_of_block (heap_alloc_new X1 _)
            have hpxx : ∀ b, vx.ownBlock = some b → b < X1.heap.size := fun b hb => (hw1.r.rx.lt b hb).2
            have hy2 : ∀ j u, (settV (nm, rd2, rv2))[j]? = some u → (X1.alloc (.cells #[.int .i64 im, .int .i64 rd, .bool (!rv)] 44)).cell? ((⟨gy, 0, none⟩ : Addr).add j) = some u := fun j u hj => cellB (hy1 j u hj) (newB X1 _)
            go_simp
            generalize X1.heap.size = gx at hx2 hpxx ⊢
            generalize X1.alloc (.cells #[.int .i64 im, .int .i64 rd, .bool (!rv)] 44) = X2 at hw2 hx2 hy2 ⊢
            refine hK _ _ hw2.sp ?_
            clear hK K
            (try simp only [Act.put, List.setIfInBounds_toArray, List.set_cons_zero, List.set_cons_succ])
            refine trF_step rfl (by rfl) (fun K hK => ?_)
            refine wp_put_x (.tmp 99) (.tmp 101) rfl hw2.r (by rfl) gx (by rfl) (im, rd, !rv) hx2 (by omega) hw2.sz ?_
            intro gp capx X3 hr3 hg3 hB3 ho3
            have hw3 := hw2.putx hr3 hg3 hB3 ho3
            have hy3 : ∀ j u, (settV (nm, rd2, rv2))[j]? = some u → X3.cell? ((⟨gy, 0, none⟩ : Addr).add j) = some u := fun j u hj => hg3.cell (hy2 j u hj) (by rw [add_block2]; exact fun e => Nat.lt_irrefl _ (hpxy _ e.symm))
            refine hK _ _ hw3.sp ?_
            clear hK K
            (try simp only [Act.put, List.setIfInBounds_toArray, List.set_cons_zero, List.set_cons_succ])
            repeat (first | (refine trF_read rfl (by rfl) _ (fun w' hS => by (try dsimp only at hS); go_simp; (try with_reducible rfl)) ?_; (try simp only [Act.put, List.setIfInBounds_toArray, List.set_cons_zero, List.set_cons_succ])) | (refine trF_skip rfl (by rfl) ?_; (try simp only [Act.put, List.setIfInBounds_toArray, List.set_cons_zero, List.set_cons_succ])))
            refine trF_step rfl (by rfl) (fun K hK => ?_)
            refine wp_put_y (.tmp 104) (.tmp 106) rfl hw3.r (by rfl) gy (by rfl) (nm, rd2, rv2) hy3 (by omega) hw3.sz ?_
            intro gq capy X4 hr4 hg4 hB4 ho4
            have hw4 := hw3.puty hr4 hg4 hB4 ho4
            refine hK _ _ hw4.sp ?_
            clear hK K
            (try simp only [Act.put, List.setIfInBounds_toArray, List.set_cons_zero, List.set_cons_succ])
            repeat (first | (refine trF_read rfl (by rfl) _ (fun w' hS => by (try dsimp only at hS); go_simp; (try with_reducible rfl)) ?_; (try simp only [Act.put, List.setIfInBounds_toArray, List.set_cons_zero, List.set_cons_succ])) | (refine trF_skip rfl (by rfl) ?_; (try simp only [Act.put, List.setIfInBounds_toArray, List.set_cons_zero, List.set_cons_succ])))
            refine trF_late rfl (by rfl) (by kernel_rfl) (fun K hK => ?_)
            obtain ⟨u6, q6, f6⟩ := hw4.b1.sl.get 6 (by omega)
            obtain ⟨u7, q7, f7⟩ := hw4.b2.sl.get 6 (by omega)
            go_simp
            refine hK _ _ ?_
            clear hK K
            (try simp only [Act.put, List.setIfInBounds_toArray, List.set_cons_zero, List.set_cons_succ])
            refine trF_late rfl (by rfl) (by kernel_rfl) (fun K hK => ?_)
            go_simp
            refine hK _ _ ?_
            clear hK K
            (try simp only [Act.put, List.setIfInBounds_toArray, List.set_cons_zero, List.set_cons_succ])
            refine trF_late rfl (by rfl) (by kernel_rfl) (fun K hK => ?_)
            go_simp
            refine hK _ _ ?_
            clear hK K q6 f6 q7 f7
            (try simp only [Act.put, List.setIfInBounds_toArray, List.set_cons_zero, List.set_cons_succ])
            have hf1 := Lib.hid ((hw4.b1.put (.slice (some ⟨gp, 0, none⟩) (k + 1) capx)).far hne 6 (.slice (some ⟨gq, 0, none⟩) (k + 1) capy))
            have hf2 := Lib.hid ((hw4.b2.far (Ne.symm hne) 6 (.slice (some ⟨gp, 0, none⟩) (k + 1) capx)).put (.slice (some ⟨gq, 0, none⟩) (k + 1) capy))
            have hf3 := Lib.hid ((hw4.r.set ⟨g11, 6, none⟩ hw4.f1 (.slice (some ⟨gp, 0, none⟩) (k + 1) capx)).set ⟨g12, 6, none⟩ hw4.f2 (.slice (some ⟨gq, 0, none⟩) (k + 1) capy))
            have hf4 : Below w3.heap.size w3 ((X4.setCell ⟨g11, 6, none⟩ (.slice (some ⟨gp, 0, none⟩) (k + 1) capx)).setCell ⟨g12, 6, none⟩ (.slice (some ⟨gq, 0, none⟩) (k + 1) capy)) := BC (BC hw4.bel g11 6 hg11 _) g12 6 hg12 _
            have hf5 : w5.heap.size ≤ ((X4.setCell ⟨g11, 6, none⟩ (.slice (some ⟨gp, 0, none⟩) (k + 1) capx)).setCell ⟨g12, 6, none⟩ (.slice (some ⟨gq, 0, none⟩) (k + 1) capy)).heap.size := by simp; exact hw4.sz
            generalize (X4.setCell ⟨g11, 6, none⟩ (.slice (some ⟨gp, 0, none⟩) (k + 1) capx)).setCell ⟨g12, 6, none⟩ (.slice (some ⟨gq, 0, none⟩) (k + 1) capy) = XZ at hf1 hf2 hf3 hf4 hf5 ⊢
            show Exit.inBlock _ _ Exit.normal _ _
            go_wp2
            go_roundw
            case rel => exact ⟨k + 1, _, _, by omega, by go_num, hf1, hf2, by show R2 _ _ _ _ _ _ _ _; rw [HFT.out, HYT.out]; exact hf3.out, hf4, hf5⟩
            case measure => simp [intOf]; omega
      · obtain rfl : k = h.ns := by omega
        have hw0 : Below w.heap.size w wr := BT hB3 hbr
        have hmW := HM.out.below (Nat.le_refl _) hw0
        have hLS : ss.length ≤ 9223372036854775807 := by rw [HNS.out]; omega
        have hR2 : R2 w5.heap.size wr vx vy h.ns h.ns (flipS ss) (yS h.images y ss) := by
          have := hr2.out
          rw [List.take_of_length_le (by rw [HFl.out, HNS.out]; exact Nat.le_refl _), List.take_of_length_le (by rw [HNl.out, HNS.out]; exact Nat.le_refl _)] at this
          exact this
        obtain ⟨sx, cx, rfl, hsx, _⟩ := row_setts hR2.rx (by rw [HFl.out, HNS.out]) (flip_rd fun s hs => (HVS.out s hs).2)
        obtain ⟨sy, cy, rfl, hsy, _⟩ := row_setts hR2.ry (by rw [HNl.out, HNS.out]) (y_rd fun s hs => (HVS.out s hs).2)
        have hXX : BoxM wr g11 (partH h sx h.ns cx) xs (flipS ss) := ⟨hx.out.c0, hx.out.c1, hx.out.c2, hx.out.c3, hx.out.c4, hx.out.c5, hx.out.c6, ⟨hmW.sp, hsx, hmW.nx, by show _ = h.ns; rw [HFl.out, HNS.out], hmW.lx, by rw [HFl.out]; exact hLS⟩⟩
        have hYY : BoxM wr g12 (partH h sy h.ns cy) xs (yS h.images y ss) := ⟨hyv.out.c0, hyv.out.c1, hyv.out.c2, hyv.out.c3, hyv.out.c4, hyv.out.c5, hyv.out.c6, ⟨hmW.sp, hsy, hmW.nx, by show _ = h.ns; rw [HNl.out, HNS.out], hmW.lx, by rw [HNl.out]; exact hLS⟩⟩
        have HA : Hid (∀ Y, Below wr.heap.size wr Y → BoxM Y B h xs ss ∧ BoxM Y g11 (partH h sx h.ns cx) xs (flipS ss) ∧ BoxM Y g12 (partH h sy h.ns cy) xs (yS h.images y ss) ∧ Y.cell? ⟨B + 1, 0, none⟩ = some (.int .u8 y) ∧ Y.cell? ⟨g10, 0, none⟩ = some (.int .i64 h.ns)) :=
          fun Y hY => ⟨HBR.out.grown hY, hXX.grown hY, hYY.grown hY, cellB ht3 hY, cellB hn3 hY⟩
        have hv := HV.out
        obtain ⟨s1, s2, es, qs, qsx, qsy⟩ := turn_sums hv y sx sy h.ns h.ns cx cy
        obtain ⟨ci, di, qc, qcx, qcy, cr, dr, hpc⟩ := turn_clash hv y sx sy h.ns h.ns cx cy
        obtain ⟨ii, ei, hii, qi, qix, qiy⟩ := turn_idle hv y sx sy h.ns h.ns cx cy
        obtain ⟨ol, qo, qox⟩ := turn_once hv sx h.ns cx
        obtain ⟨pd, qd, qp, qq, pr, qr, hpd⟩ := turn_drop hv y sy h.ns cy
        have HTAB := Lib.hid (fun (hab : (0 ≤ a ∧ a < h.images) ∧ (0 ≤ b ∧ b < h.images)) => turn_ab hv y sx sy h.ns h.ns cx cy hab.1 hab.2)
        have HRD : Hid (∀ s ∈ ss, s.2.1 ≤ 9223372036854775807) := fun s hs => by have := (HVS.out s hs).2; omega
        rw [HNS.out] at hii qiy
        have HCs : Hid (∀ Y, Below wr.heap.size wr Y → Calls Try.prog 18 #[.agg #[.slice h.a h.n h.cap, .int .i64 h.eLo, .int .i64 h.eHi, .int .i64 h.images, .int .i64 h.sLo, .int .i64 h.sHi, .slice h.sa h.ns h.scap]] Y (Ret (.tuple #[.agg #[.int .i64 s1, .int .i64 s2], .int .i64 es]) Y)) := fun Y hY => by
          have := sum_any h xs ss Y (HA.out Y hY).1.has
          rw [qs] at this; exact this
        have HCsx : Hid (∀ Y, Below wr.heap.size wr Y → Calls Try.prog 18 #[.agg #[.slice (partH h sx h.ns cx).a (partH h sx h.ns cx).n (partH h sx h.ns cx).cap, .int .i64 (partH h sx h.ns cx).eLo, .int .i64 (partH h sx h.ns cx).eHi, .int .i64 (partH h sx h.ns cx).images, .int .i64 (partH h sx h.ns cx).sLo, .int .i64 (partH h sx h.ns cx).sHi, .slice (partH h sx h.ns cx).sa (partH h sx h.ns cx).ns (partH h sx h.ns cx).scap]] Y (Ret (.tuple #[.agg #[.int .i64 s1, .int .i64 s2], .int .i64 es]) Y)) := fun Y hY => by
          have := sum_any (partH h sx h.ns cx) xs (flipS ss) Y (HA.out Y hY).2.1.has
          rw [qsx] at this; exact this
        have HCsy : Hid (∀ Y, Below wr.heap.size wr Y → Calls Try.prog 18 #[.agg #[.slice (partH h sy h.ns cy).a (partH h sy h.ns cy).n (partH h sy h.ns cy).cap, .int .i64 (partH h sy h.ns cy).eLo, .int .i64 (partH h sy h.ns cy).eHi, .int .i64 (partH h sy h.ns cy).images, .int .i64 (partH h sy h.ns cy).sLo, .int .i64 (partH h sy h.ns cy).sHi, .slice (partH h sy h.ns cy).sa (partH h sy h.ns cy).ns (partH h sy h.ns cy).scap]] Y (Ret (.tuple #[.agg #[.int .i64 s1, .int .i64 s2], .int .i64 es]) Y)) := fun Y hY => by
          have := sum_any (partH h sy h.ns cy) xs (yS h.images y ss) Y (HA.out Y hY).2.2.1.has
          rw [qsy] at this; exact this
        have HCc : Hid (∀ Y, Below wr.heap.size wr Y → Calls Try.prog 24 #[.agg #[.slice h.a h.n h.cap, .int .i64 h.eLo, .int .i64 h.eHi, .int .i64 h.images, .int .i64 h.sLo, .int .i64 h.sHi, .slice h.sa h.ns h.scap]] Y (Ret (.tuple #[.int .i64 ci, .int .i64 0]) Y)) := fun Y hY => by
          have := clash_any h xs ss Y (HA.out Y hY).1.has
          rw [qc] at this; exact this
        have HCcx : Hid (∀ Y, Below wr.heap.size wr Y → Calls Try.prog 24 #[.agg #[.slice (partH h sx h.ns cx).a (partH h sx h.ns cx).n (partH h sx h.ns cx).cap, .int .i64 (partH h sx h.ns cx).eLo, .int .i64 (partH h sx h.ns cx).eHi, .int .i64 (partH h sx h.ns cx).images, .int .i64 (partH h sx h.ns cx).sLo, .int .i64 (partH h sx h.ns cx).sHi, .slice (partH h sx h.ns cx).sa (partH h sx h.ns cx).ns (partH h sx h.ns cx).scap]] Y (Ret (.tuple #[.int .i64 ci, .int .i64 0]) Y)) := fun Y hY => by
          have := clash_any (partH h sx h.ns cx) xs (flipS ss) Y (HA.out Y hY).2.1.has
          rw [qcx] at this; exact this
        have HCcy : Hid (∀ Y, Below wr.heap.size wr Y → Calls Try.prog 24 #[.agg #[.slice (partH h sy h.ns cy).a (partH h sy h.ns cy).n (partH h sy h.ns cy).cap, .int .i64 (partH h sy h.ns cy).eLo, .int .i64 (partH h sy h.ns cy).eHi, .int .i64 (partH h sy h.ns cy).images, .int .i64 (partH h sy h.ns cy).sLo, .int .i64 (partH h sy h.ns cy).sHi, .slice (partH h sy h.ns cy).sa (partH h sy h.ns cy).ns (partH h sy h.ns cy).scap]] Y (Ret (.tuple #[.int .i64 di, .int .i64 0]) Y)) := fun Y hY => by
          have := clash_any (partH h sy h.ns cy) xs (yS h.images y ss) Y (HA.out Y hY).2.2.1.has
          rw [qcy] at this; exact this
        have HCi : Hid (∀ Y, Below wr.heap.size wr Y → Calls Try.prog 30 #[.agg #[.slice h.a h.n h.cap, .int .i64 h.eLo, .int .i64 h.eHi, .int .i64 h.images, .int .i64 h.sLo, .int .i64 h.sHi, .slice h.sa h.ns h.scap]] Y (Ret (.tuple #[.int .i64 ii, .int .i64 ei]) Y)) := fun Y hY => by
          have := idle_any h xs ss Y (HA.out Y hY).1.has
          rw [qi] at this; exact this
        have HCix : Hid (∀ Y, Below wr.heap.size wr Y → Calls Try.prog 30 #[.agg #[.slice (partH h sx h.ns cx).a (partH h sx h.ns cx).n (partH h sx h.ns cx).cap, .int .i64 (partH h sx h.ns cx).eLo, .int .i64 (partH h sx h.ns cx).eHi, .int .i64 (partH h sx h.ns cx).images, .int .i64 (partH h sx h.ns cx).sLo, .int .i64 (partH h sx h.ns cx).sHi, .slice (partH h sx h.ns cx).sa (partH h sx h.ns cx).ns (partH h sx h.ns cx).scap]] Y (Ret (.tuple #[.int .i64 ii, .int .i64 ei]) Y)) := fun Y hY => by
          have := idle_any (partH h sx h.ns cx) xs (flipS ss) Y (HA.out Y hY).2.1.has
          rw [qix] at this; exact this
        have HCiy : Hid (∀ Y, Below wr.heap.size wr Y → Calls Try.prog 30 #[.agg #[.slice (partH h sy h.ns cy).a (partH h sy h.ns cy).n (partH h sy h.ns cy).cap, .int .i64 (partH h sy h.ns cy).eLo, .int .i64 (partH h sy h.ns cy).eHi, .int .i64 (partH h sy h.ns cy).images, .int .i64 (partH h sy h.ns cy).sLo, .int .i64 (partH h sy h.ns cy).sHi, .slice (partH h sy h.ns cy).sa (partH h sy h.ns cy).ns (partH h sy h.ns cy).scap]] Y (Ret (.tuple #[.int .i64 (backN h.ns ii h.ns), .int .i64 ei]) Y)) := fun Y hY => by
          have := idle_any (partH h sy h.ns cy) xs (yS h.images y ss) Y (HA.out Y hY).2.2.1.has
          rw [qiy] at this; exact this
        have HCo : Hid (∀ Y, Below wr.heap.size wr Y → Calls Try.prog 28 #[.agg #[.slice h.a h.n h.cap, .int .i64 h.eLo, .int .i64 h.eHi, .int .i64 h.images, .int .i64 h.sLo, .int .i64 h.sHi, .slice h.sa h.ns h.scap]] Y (Ret (.tuple #[.int .i64 ol, .int .i64 0]) Y)) := fun Y hY => by
          have := once_any h xs ss Y (HA.out Y hY).1.has
          rw [qo] at this; exact this
        have HCox : Hid (∀ Y, Below wr.heap.size wr Y → Calls Try.prog 28 #[.agg #[.slice (partH h sx h.ns cx).a (partH h sx h.ns cx).n (partH h sx h.ns cx).cap, .int .i64 (partH h sx h.ns cx).eLo, .int .i64 (partH h sx h.ns cx).eHi, .int .i64 (partH h sx h.ns cx).images, .int .i64 (partH h sx h.ns cx).sLo, .int .i64 (partH h sx h.ns cx).sHi, .slice (partH h sx h.ns cx).sa (partH h sx h.ns cx).ns (partH h sx h.ns cx).scap]] Y (Ret (.tuple #[.int .i64 ol, .int .i64 0]) Y)) := fun Y hY => by
          have := once_any (partH h sx h.ns cx) xs (flipS ss) Y (HA.out Y hY).2.1.has
          rw [qox] at this; exact this
        have HCd : Hid (∀ Y, Below wr.heap.size wr Y → Calls Try.prog 26 #[.agg #[.slice h.a h.n h.cap, .int .i64 h.eLo, .int .i64 h.eHi, .int .i64 h.images, .int .i64 h.sLo, .int .i64 h.sHi, .slice h.sa h.ns h.scap]] Y (Ret (.tuple #[.int .i64 pd, .int .i64 0]) Y)) := fun Y hY => by
          have := drop_any h xs ss Y (HA.out Y hY).1.has
          rw [qp] at this; exact this
        have HCdy : Hid (∀ Y, Below wr.heap.size wr Y → Calls Try.prog 26 #[.agg #[.slice (partH h sy h.ns cy).a (partH h sy h.ns cy).n (partH h sy h.ns cy).cap, .int .i64 (partH h sy h.ns cy).eLo, .int .i64 (partH h sy h.ns cy).eHi, .int .i64 (partH h sy h.ns cy).images, .int .i64 (partH h sy h.ns cy).sLo, .int .i64 (partH h sy h.ns cy).sHi, .slice (partH h sy h.ns cy).sa (partH h sy h.ns cy).ns (partH h sy h.ns cy).scap]] Y (Ret (.tuple #[.int .i64 qd, .int .i64 0]) Y)) := fun Y hY => by
          have := drop_any (partH h sy h.ns cy) xs (yS h.images y ss) Y (HA.out Y hY).2.2.1.has
          rw [qq] at this; exact this
        have HIO : Hid (0 ≤ ci ∧ 0 ≤ di ∧ 0 ≤ pd ∧ 0 ≤ qd) := ⟨cr.1, dr.1, pr.1, qr.1⟩
        have HZC := Lib.hid (size_any ci cr)
        have HZD := Lib.hid (size_any di dr)
        have HZP := Lib.hid (size_any pd pr)
        have HZQ := Lib.hid (size_any qd qr)
        rw [hpc] at HZD
        rw [hpd] at HZQ
        have HBK := Lib.hid (fun W (hT : W.cell? ⟨g10, 0, none⟩ = some (.int .i64 h.ns)) => back45_any g10 h.ns ii W hT h12 hii)
        have HHM : Hid (HasM wr h xs ss) := hmW
        have HW0 := Lib.hid hw0
        generalize popc ci = pc at HZC HZD
        generalize popc pd = pp at HZP HZQ
        generalize backN h.ns ii h.ns = bi at *
        generalize hXe : (partH h sx h.ns cx) = X at HA HTAB HCsx HCcx HCix HCox
        generalize hYe : (partH h sy h.ns cy) = Yh at HA HTAB HCsy HCcy HCiy HCdy
        clear hXe hYe qs qsx qsy qc qcx qcy cr dr hpc hii qi qix qiy qo qox qp qq pr qr hpd hXX hYY hv hmW hw0 hLS hR2 hx hyv hr2 hbr hsz HBR ht3 hn3 hsx hsy
        clear HM HB3 HS3 HN3 hB3 hl11 hl12 HNl HFl HX11 HX12 hb5 hne hg11 hg12 HV HVS
        obtain ⟨w6, rfl⟩ : ∃ w6 : World, w6 = wr := ⟨_, rfl⟩
        have HMS : Hid (∀ Y, Below w6.heap.size w6 Y → HasM Y h xs ss) := fun Y hY => (HA.out Y hY).1.has
        have HNX := Lib.hid HHM.out.nx
        have hn100 : h.n ≤ 100 := by rw [← HNX.out]; exact hnx
        have HS15 : Hid (∀ X, Below w6.heap.size w6 X → X.cell? ⟨B, 0, none⟩ = some (.slice h.a h.n h.cap) ∧ X.cell? ⟨B, 6, none⟩ = some (.slice h.sa h.ns h.scap)) := fun X hX => ⟨(HA.out X hX).1.c0, (HA.out X hX).1.c6⟩
        have hB0 : Below w6.heap.size w6 w6.drew := Below.drew (Below.refl _ _)
        go_upto_region 15 with fail
        go_cut [16, 17] from 111 to 119 (fun a16 a17 X => ∃ (sc : Option Addr) (cc : Nat) (sp : Option Addr) (cp : Nat), a16 = .slice sc h.ns cc ∧ a17 = .slice sp h.n cp ∧ Setts X sc ss ∧ Spans X sp xs ∧ Below w6.heap.size w6 X)
        case first =>
          refine wp_region_tree (.read 1 (.read 2 (.read 5 (.read 6 (.read 7 (.two 0 (.two 3 (.one 4 (.one 8 (.read 9 (.read 10 (.leaf))))) 4 (.one 3 (.one 8 (.read 9 (.read 10 (.leaf)))))) 4 (.one 0 (.one 3 (.one 8 (.read 9 (.read 10 (.leaf)))))))))))) (fun w' => w'.cell? ⟨B, 0, none⟩ = some (.slice h.a h.n h.cap) ∧ w'.cell? ⟨B, 6, none⟩ = some (.slice h.sa h.ns h.scap)) (by kernel_rfl) (by kernel_rfl) (fun _ _ d _ _ h => by cases d <;> exact h) (HS15.out _ hB0) ?_
          generalize w6.drew = X0 at hB0 ⊢
          repeat (first | (refine tr_read rfl (by rfl) _ (fun w' hS => by (try dsimp only at hS); go_simp; (try with_reducible rfl)) ?_; (try simp only [Act.put, List.setIfInBounds_toArray, List.set_cons_zero, List.set_cons_succ])) | (refine tr_skip rfl (by rfl) ?_; (try simp only [Act.put, List.setIfInBounds_toArray, List.set_cons_zero, List.set_cons_succ])))
          refine ⟨?_, ?_⟩
          · skip
            refine tr_step rfl (by rfl) (fun K hK => ?_)
            have hB1 := BA hB0 (.cells #[] 44)
            have hr1 := World.ownsRow_lit (base := w6.heap.size) (e := 44) (size := 3) X0 #[] 0 hB0.size (by unfold maxLen; omega) (by rfl)
            go_simp
            generalize X0.heap.size = gv at *
            generalize X0.alloc (.cells #[] 44) = X1 at *
            refine hK _ _ (HS15.out _ hB1) ?_
            clear hK K
            (try simp only [Act.put, List.setIfInBounds_toArray, List.set_cons_zero, List.set_cons_succ])
            refine ⟨?_, ?_⟩
            · skip
              refine tr_step rfl (by rfl) (fun K hK => ?_)
              refine wp_append_setts (.tmp 111) (.tmp 113) rfl w6.heap.size (.slice (some ⟨gv, 0, none⟩) 0 0) (by rfl) hr1 h.sa h.ns h.scap ss (by rfl) (HMS.out _ hB1).st HNS.out (by omega) hB1.size ?_
              intro v3 X2 hr2 hgr2
              have hB2 := hB1.grown hgr2 hB1.size (fun k hk => (hr1.lt k hk).1)
              refine hK _ _ (HS15.out _ hB2) ?_
              clear hK K
              (try simp only [Act.put, List.setIfInBounds_toArray, List.set_cons_zero, List.set_cons_succ])
              refine tr_step rfl (by rfl) (fun K hK => ?_)
              have hB3 := BA hB2 (.cells #[] 24)
              have hu3 := World.ownsRow_lit (base := w6.heap.size) (e := 24) (size := 2) X2 #[] 0 hB2.size (by unfold maxLen; omega) (by rfl)
              have hr3 := hr2.kept (World.grownBy_alloc X2 (.cells #[] 24) none) (by first | (simp [Value.ownBlock]; done) | (cases hq : Value.ownBlock v3 <;> simp))
              go_simp
              generalize X2.heap.size = gu at *
              generalize X2.alloc (.cells #[] 24) = X3 at *
              refine hK _ _ (HS15.out _ hB3) ?_
              clear hK K
              (try simp only [Act.put, List.setIfInBounds_toArray, List.set_cons_zero, List.set_cons_succ])
              refine tr_step rfl (by rfl) (fun K hK => ?_)
              refine wp_append_spans (.tmp 115) (.tmp 118) rfl w6.heap.size (.slice (some ⟨gu, 0, none⟩) 0 0) (by rfl) hu3 h.a h.n h.cap xs (by rfl) (HMS.out _ hB3).sp HNX.out hn100 hB3.size ?_
              intro v8 X4 hu4 hgr4
              have hB4 := hB3.grown hgr4 hB3.size (fun k hk => (hu3.lt k hk).1)
              have hr4 := hr3.kept hgr4 (own_ne hr3 hu3)
              refine hK _ _ (HS15.out _ hB4) ?_
              clear hK K
              (try simp only [Act.put, List.setIfInBounds_toArray, List.set_cons_zero, List.set_cons_succ])
              repeat (first | (refine tr_read rfl (by rfl) _ (fun w' hS => by (try dsimp only at hS); go_simp; (try with_reducible rfl)) ?_; (try simp only [Act.put, List.setIfInBounds_toArray, List.set_cons_zero, List.set_cons_succ])) | (refine tr_skip rfl (by rfl) ?_; (try simp only [Act.put, List.setIfInBounds_toArray, List.set_cons_zero, List.set_cons_succ])))
              obtain ⟨sc, cc, rfl, hsc, _⟩ := row_setts hr4 HNS.out HRD.out
              obtain ⟨sp, cp, rfl, hsp⟩ := row_spans hu4 HNX.out
              show Exit.then _ _ Exit.normal _ _
              go_wp2_with fail
              go_meet
              exact ⟨sc, cc, sp, cp, rfl, rfl, hsc, hsp, hB4⟩
            · skip
              refine tr_step rfl (by rfl) (fun K hK => ?_)
              have hB2 := BA hB1 (.cells #[] 24)
              have hu2 := World.ownsRow_lit (base := w6.heap.size) (e := 24) (size := 2) X1 #[] 0 hB1.size (by unfold maxLen; omega) (by rfl)
              have hr2 := hr1.kept (World.grownBy_alloc X1 (.cells #[] 24) none) (by first | (simp [Value.ownBlock]; done) | (cases hq : Value.ownBlock v3 <;> simp))
              go_simp
              generalize X1.heap.size = gu at *
              generalize X1.alloc (.cells #[] 24) = X2 at *
              refine hK _ _ (HS15.out _ hB2) ?_
              clear hK K
              (try simp only [Act.put, List.setIfInBounds_toArray, List.set_cons_zero, List.set_cons_succ])
              refine tr_step rfl (by rfl) (fun K hK => ?_)
              refine wp_append_setts (.tmp 111) (.tmp 113) rfl w6.heap.size (.slice (some ⟨gv, 0, none⟩) 0 0) (by rfl) hr2 h.sa h.ns h.scap ss (by rfl) (HMS.out _ hB2).st HNS.out (by omega) hB2.size ?_
              intro v3 X3 hr3 hgr3
              have hB3 := hB2.grown hgr3 hB2.size (fun k hk => (hr2.lt k hk).1)
              have hu3 := hu2.kept hgr3 (own_ne' hu2 hr2)
              refine hK _ _ (HS15.out _ hB3) ?_
              clear hK K
              (try simp only [Act.put, List.setIfInBounds_toArray, List.set_cons_zero, List.set_cons_succ])
              refine tr_step rfl (by rfl) (fun K hK => ?_)
              refine wp_append_spans (.tmp 115) (.tmp 118) rfl w6.heap.size (.slice (some ⟨gu, 0, none⟩) 0 0) (by rfl) hu3 h.a h.n h.cap xs (by rfl) (HMS.out _ hB3).sp HNX.out hn100 hB3.size ?_
              intro v8 X4 hu4 hgr4
              have hB4 := hB3.grown hgr4 hB3.size (fun k hk => (hu3.lt k hk).1)
              have hr4 := hr3.kept hgr4 (own_ne hr3 hu3)
              refine hK _ _ (HS15.out _ hB4) ?_
              clear hK K
              (try simp only [Act.put, List.setIfInBounds_toArray, List.set_cons_zero, List.set_cons_succ])
              repeat (first | (refine tr_read rfl (by rfl) _ (fun w' hS => by (try dsimp only at hS); go_simp; (try with_reducible rfl)) ?_; (try simp only [Act.put, List.setIfInBounds_toArray, List.set_cons_zero, List.set_cons_succ])) | (refine tr_skip rfl (by rfl) ?_; (try simp only [Act.put, List.setIfInBounds_toArray, List.set_cons_zero, List.set_cons_succ])))
              obtain ⟨sc, cc, rfl, hsc, _⟩ := row_setts hr4 HNS.out HRD.out
              obtain ⟨sp, cp, rfl, hsp⟩ := row_spans hu4 HNX.out
              show Exit.then _ _ Exit.normal _ _
              go_wp2_with fail
              go_meet
              exact ⟨sc, cc, sp, cp, rfl, rfl, hsc, hsp, hB4⟩
          · skip
            refine tr_step rfl (by rfl) (fun K hK => ?_)
            have hB1 := BA hB0 (.cells #[] 24)
            have hu1 := World.ownsRow_lit (base := w6.heap.size) (e := 24) (size := 2) X0 #[] 0 hB0.size (by unfold maxLen; omega) (by rfl)
            go_simp
            generalize X0.heap.size = gu at *
            generalize X0.alloc (.cells #[] 24) = X1 at *
            refine hK _ _ (HS15.out _ hB1) ?_
            clear hK K
            (try simp only [Act.put, List.setIfInBounds_toArray, List.set_cons_zero, List.set_cons_succ])
            refine tr_step rfl (by rfl) (fun K hK => ?_)
            have hB2 := BA hB1 (.cells #[] 44)
            have hr2 := World.ownsRow_lit (base := w6.heap.size) (e := 44) (size := 3) X1 #[] 0 hB1.size (by unfold maxLen; omega) (by rfl)
            have hu2 := hu1.kept (World.grownBy_alloc X1 (.cells #[] 44) none) (by first | (simp [Value.ownBlock]; done) | (cases hq : Value.ownBlock v8 <;> simp))
            go_simp
            generalize X1.heap.size = gv at *
            generalize X1.alloc (.cells #[] 44) = X2 at *
            refine hK _ _ (HS15.out _ hB2) ?_
            clear hK K
            (try simp only [Act.put, List.setIfInBounds_toArray, List.set_cons_zero, List.set_cons_succ])
            refine tr_step rfl (by rfl) (fun K hK => ?_)
            refine wp_append_setts (.tmp 111) (.tmp 113) rfl w6.heap.size (.slice (some ⟨gv, 0, none⟩) 0 0) (by rfl) hr2 h.sa h.ns h.scap ss (by rfl) (HMS.out _ hB2).st HNS.out (by omega) hB2.size ?_
            intro v3 X3 hr3 hgr3
            have hB3 := hB2.grown hgr3 hB2.size (fun k hk => (hr2.lt k hk).1)
            have hu3 := hu2.kept hgr3 (own_ne' hu2 hr2)
            refine hK _ _ (HS15.out _ hB3) ?_
            clear hK K
            (try simp only [Act.put, List.setIfInBounds_toArray, List.set_cons_zero, List.set_cons_succ])
            refine tr_step rfl (by rfl) (fun K hK => ?_)
            refine wp_append_spans (.tmp 115) (.tmp 118) rfl w6.heap.size (.slice (some ⟨gu, 0, none⟩) 0 0) (by rfl) hu3 h.a h.n h.cap xs (by rfl) (HMS.out _ hB3).sp HNX.out hn100 hB3.size ?_
            intro v8 X4 hu4 hgr4
            have hB4 := hB3.grown hgr4 hB3.size (fun k hk => (hu3.lt k hk).1)
            have hr4 := hr3.kept hgr4 (own_ne hr3 hu3)
            refine hK _ _ (HS15.out _ hB4) ?_
            clear hK K
            (try simp only [Act.put, List.setIfInBounds_toArray, List.set_cons_zero, List.set_cons_succ])
            repeat (first | (refine tr_read rfl (by rfl) _ (fun w' hS => by (try dsimp only at hS); go_simp; (try with_reducible rfl)) ?_; (try simp only [Act.put, List.setIfInBounds_toArray, List.set_cons_zero, List.set_cons_succ])) | (refine tr_skip rfl (by rfl) ?_; (try simp only [Act.put, List.setIfInBounds_toArray, List.set_cons_zero, List.set_cons_succ])))
            obtain ⟨sc, cc, rfl, hsc, _⟩ := row_setts hr4 HNS.out HRD.out
            obtain ⟨sp, cp, rfl, hsp⟩ := row_spans hu4 HNX.out
            show Exit.then _ _ Exit.normal _ _
            go_wp2_with fail
            go_meet
            exact ⟨sc, cc, sp, cp, rfl, rfl, hsc, hsp, hB4⟩
        case rest =>
          obtain ⟨sc, cc, sp, cp, rfl, rfl, hsc, hsp, hb15⟩ := hcut
          obtain ⟨w7, rfl⟩ : ∃ w7 : World, w7 = wc := ⟨_, rfl⟩
          have HCP : Hid (∀ Y, Below w7.heap.size w7 Y → Setts Y sc ss ∧ Spans Y sp xs) := fun Y hY => ⟨hsc.below (Nat.le_refl _) hY, hsp.below (Nat.le_refl _) hY⟩
          have hW0 := hb15
          clear hsc hsp hb15 hB0 HS15
          obtain ⟨⟨c0, c1, c2, c3, c4, c5, c6, hh⟩, _⟩ := HA.out _ hW0
          clear hh
          go_wp2_with fail
          refine (HCs.out _ hW0).mono ?_
          rintro e x1 ⟨rfl, hx1⟩
          clear c0 c1 c2 c3 c4 c5 c6 HCs
          have hZ := BT hx1 (newB x1 (.cells #[.int .i64 s1, .int .i64 s2] 24))
          have HT19_1 := Lib.hid (show Two x1.heap.size s1 s2 (x1.alloc (.cells #[.int .i64 s1, .int .i64 s2] 24)) from two_newT x1 s1 s2 24)
          go_upto_region 18 with fail
          generalize x1.heap.size = g19 at HT19_1 ⊢
          generalize x1.alloc (.cells #[.int .i64 s1, .int .i64 s2] 24) = Y1 at hZ HT19_1 ⊢
          have hW1 := BT hW0 hZ
          have hWc1 := hZ
          clear hZ hx1 hW0 
          obtain ⟨_, ⟨c0, c1, c2, c3, c4, c5, c6, hh⟩, _⟩ := HA.out _ hW1
          clear hh
          go_wp2_with fail
          refine (HCsx.out _ hW1).mono ?_
          rintro e x2 ⟨rfl, hx2⟩
          clear c0 c1 c2 c3 c4 c5 c6 HCsx
          have hZ := BT hx2 (newB x2 (.cells #[.int .i64 s1, .int .i64 s2] 24))
          have HT21_2 := Lib.hid (show Two x2.heap.size s1 s2 (x2.alloc (.cells #[.int .i64 s1, .int .i64 s2] 24)) from two_newT x2 s1 s2 24)
          go_upto_region 19 with fail
          generalize x2.heap.size = g21 at HT21_2 ⊢
          generalize x2.alloc (.cells #[.int .i64 s1, .int .i64 s2] 24) = Y2 at hZ HT21_2 ⊢
          have hW2 := BT hW1 hZ
          have hWc2 := BT hWc1 hZ
          clear hWc1
          have HT19_2 := Lib.hid (HT19_1.out.grown hZ)
          clear hZ hx2 hW1 HT19_1
          obtain ⟨_, _, ⟨c0, c1, c2, c3, c4, c5, c6, hh⟩, _⟩ := HA.out _ hW2
          clear hh
          go_wp2_with fail
          refine (HCsy.out _ hW2).mono ?_
          rintro e x3 ⟨rfl, hx3⟩
          clear c0 c1 c2 c3 c4 c5 c6 HCsy
          have hZ := BT hx3 (newB x3 (.cells #[.int .i64 s1, .int .i64 s2] 24))
          have HT23_3 := Lib.hid (show Two x3.heap.size s1 s2 (x3.alloc (.cells #[.int .i64 s1, .int .i64 s2] 24)) from two_newT x3 s1 s2 24)
          go_upto_region 20 with fail
          generalize x3.heap.size = g23 at HT23_3 ⊢
          generalize x3.alloc (.cells #[.int .i64 s1, .int .i64 s2] 24) = Y3 at hZ HT23_3 ⊢
          have hW3 := BT hW2 hZ
          have hWc3 := BT hWc2 hZ
          clear hWc2
          have HT19_3 := Lib.hid (HT19_2.out.grown hZ)
          have HT21_3 := Lib.hid (HT21_2.out.grown hZ)
          clear hZ hx3 hW2 HT19_2 HT21_2
          obtain ⟨⟨c0, c1, c2, c3, c4, c5, c6, hh⟩, _⟩ := HA.out _ hW3
          clear hh
          go_wp2_with fail
          refine (HCc.out _ hW3).mono ?_
          rintro e x4 ⟨rfl, hx4⟩
          clear c0 c1 c2 c3 c4 c5 c6 HCc
          go_upto_region 21 with fail
          have hW4 := BT hW3 hx4
          have hWc4 := BT hWc3 hx4
          clear hWc3
          have HT19_4 := Lib.hid (HT19_3.out.grown hx4)
          have HT21_4 := Lib.hid (HT21_3.out.grown hx4)
          have HT23_4 := Lib.hid (HT23_3.out.grown hx4)
          clear hx4 hW3 HT19_3 HT21_3 HT23_3
          obtain ⟨_, ⟨c0, c1, c2, c3, c4, c5, c6, hh⟩, _⟩ := HA.out _ hW4
          clear hh
          go_wp2_with fail
          refine (HCcx.out _ hW4).mono ?_
          rintro e x5 ⟨rfl, hx5⟩
          clear c0 c1 c2 c3 c4 c5 c6 HCcx
          go_upto_region 22 with fail
          have hW5 := BT hW4 hx5
          have hWc5 := BT hWc4 hx5
          clear hWc4
          have HT19_5 := Lib.hid (HT19_4.out.grown hx5)
          have HT21_5 := Lib.hid (HT21_4.out.grown hx5)
          have HT23_5 := Lib.hid (HT23_4.out.grown hx5)
          clear hx5 hW4 HT19_4 HT21_4 HT23_4
          obtain ⟨_, _, ⟨c0, c1, c2, c3, c4, c5, c6, hh⟩, _⟩ := HA.out _ hW5
          clear hh
          go_wp2_with fail
          refine (HCcy.out _ hW5).mono ?_
          rintro e x6 ⟨rfl, hx6⟩
          clear c0 c1 c2 c3 c4 c5 c6 HCcy
          go_upto_region 23 with fail
          have hW6 := BT hW5 hx6
          have hWc6 := BT hWc5 hx6
          clear hWc5
          have HT19_6 := Lib.hid (HT19_5.out.grown hx6)
          have HT21_6 := Lib.hid (HT21_5.out.grown hx6)
          have HT23_6 := Lib.hid (HT23_5.out.grown hx6)
          clear hx6 hW5 HT19_5 HT21_5 HT23_5
          obtain ⟨⟨c0, c1, c2, c3, c4, c5, c6, hh⟩, _⟩ := HA.out _ hW6
          clear hh
          go_wp2_with fail
          refine (HCi.out _ hW6).mono ?_
          rintro e x7 ⟨rfl, hx7⟩
          clear c0 c1 c2 c3 c4 c5 c6 HCi
          go_upto_region 24 with fail
          have hW7 := BT hW6 hx7
          have hWc7 := BT hWc6 hx7
          clear hWc6
          have HT19_7 := Lib.hid (HT19_6.out.grown hx7)
          have HT21_7 := Lib.hid (HT21_6.out.grown hx7)
          have HT23_7 := Lib.hid (HT23_6.out.grown hx7)
          clear hx7 hW6 HT19_6 HT21_6 HT23_6
          obtain ⟨_, ⟨c0, c1, c2, c3, c4, c5, c6, hh⟩, _⟩ := HA.out _ hW7
          clear hh
          go_wp2_with fail
          refine (HCix.out _ hW7).mono ?_
          rintro e x8 ⟨rfl, hx8⟩
          clear c0 c1 c2 c3 c4 c5 c6 HCix
          go_upto_region 25 with fail
          have hW8 := BT hW7 hx8
          have hWc8 := BT hWc7 hx8
          clear hWc7
          have HT19_8 := Lib.hid (HT19_7.out.grown hx8)
          have HT21_8 := Lib.hid (HT21_7.out.grown hx8)
          have HT23_8 := Lib.hid (HT23_7.out.grown hx8)
          clear hx8 hW7 HT19_7 HT21_7 HT23_7
          obtain ⟨_, _, ⟨c0, c1, c2, c3, c4, c5, c6, hh⟩, _⟩ := HA.out _ hW8
          clear hh
          go_wp2_with fail
          refine (HCiy.out _ hW8).mono ?_
          rintro e x9 ⟨rfl, hx9⟩
          clear c0 c1 c2 c3 c4 c5 c6 HCiy
          go_upto_region 26 with fail
          have hW9 := BT hW8 hx9
          have hWc9 := BT hWc8 hx9
          clear hWc8
          have HT19_9 := Lib.hid (HT19_8.out.grown hx9)
          have HT21_9 := Lib.hid (HT21_8.out.grown hx9)
          have HT23_9 := Lib.hid (HT23_8.out.grown hx9)
          clear hx9 hW8 HT19_8 HT21_8 HT23_8
          obtain ⟨⟨c0, c1, c2, c3, c4, c5, c6, hh⟩, _⟩ := HA.out _ hW9
          clear hh
          go_wp2_with fail
          refine (HCo.out _ hW9).mono ?_
          rintro e x10 ⟨rfl, hx10⟩
          clear c0 c1 c2 c3 c4 c5 c6 HCo
          go_upto_region 27 with fail
          have hW10 := BT hW9 hx10
          have hWc10 := BT hWc9 hx10
          clear hWc9
          have HT19_10 := Lib.hid (HT19_9.out.grown hx10)
          have HT21_10 := Lib.hid (HT21_9.out.grown hx10)
          have HT23_10 := Lib.hid (HT23_9.out.grown hx10)
          clear hx10 hW9 HT19_9 HT21_9 HT23_9
          obtain ⟨_, ⟨c0, c1, c2, c3, c4, c5, c6, hh⟩, _⟩ := HA.out _ hW10
          clear hh
          go_wp2_with fail
          refine (HCox.out _ hW10).mono ?_
          rintro e x11 ⟨rfl, hx11⟩
          clear c0 c1 c2 c3 c4 c5 c6 HCox
          go_upto_region 28 with fail
          have hW11 := BT hW10 hx11
          have hWc11 := BT hWc10 hx11
          clear hWc10
          have HT19_11 := Lib.hid (HT19_10.out.grown hx11)
          have HT21_11 := Lib.hid (HT21_10.out.grown hx11)
          have HT23_11 := Lib.hid (HT23_10.out.grown hx11)
          clear hx11 hW10 HT19_10 HT21_10 HT23_10
          obtain ⟨⟨c0, c1, c2, c3, c4, c5, c6, hh⟩, _⟩ := HA.out _ hW11
          clear hh
          go_wp2_with fail
          refine (HCd.out _ hW11).mono ?_
          rintro e x12 ⟨rfl, hx12⟩
          clear c0 c1 c2 c3 c4 c5 c6 HCd
          go_upto_region 29 with fail
          have hW12 := BT hW11 hx12
          have hWc12 := BT hWc11 hx12
          clear hWc11
          have HT19_12 := Lib.hid (HT19_11.out.grown hx12)
          have HT21_12 := Lib.hid (HT21_11.out.grown hx12)
          have HT23_12 := Lib.hid (HT23_11.out.grown hx12)
          clear hx12 hW11 HT19_11 HT21_11 HT23_11
          obtain ⟨_, _, ⟨c0, c1, c2, c3, c4, c5, c6, hh⟩, _⟩ := HA.out _ hW12
          clear hh
          go_wp2_with fail
          refine (HCdy.out _ hW12).mono ?_
          rintro e x13 ⟨rfl, hx13⟩
          clear c0 c1 c2 c3 c4 c5 c6 HCdy
          go_upto_region 30 with fail
          have hW13 := BT hW12 hx13
          have hWc13 := BT hWc12 hx13
          clear hWc12
          have HT19_13 := Lib.hid (HT19_12.out.grown hx13)
          have HT21_13 := Lib.hid (HT21_12.out.grown hx13)
          have HT23_13 := Lib.hid (HT23_12.out.grown hx13)
          clear hx13 hW12 HT19_12 HT21_12 HT23_12

          have hHCP : Hid (∀ Y, Below x13.heap.size x13 Y → Setts Y sc ss ∧ Spans Y sp xs) := fun Y hY => HCP.out Y (BT hWc13 hY)
          obtain ⟨y0, y1⟩ := HT19_13.out
          obtain ⟨y2, y3⟩ := HT21_13.out
          obtain ⟨y4, y5⟩ := HT23_13.out
          obtain ⟨hi1, hi2, hi3, hi4⟩ := HIO.out
          have hi1 : ¬ ci < 0 := by omega
          have hi2 : ¬ di < 0 := by omega
          have hi3 : ¬ pd < 0 := by omega
          have hi4 : ¬ qd < 0 := by omega
          go_wp2_with fail
          refine (HBK.out _ (HA.out _ hW13).2.2.2.2).mono ?_
          rintro e z1 ⟨rfl, hz1⟩
          clear y0 y1 y2 y3 y4 y5 HT19_13 HT21_13 HT23_13
          go_wp2_with fail
          refine (HZC.out _).mono ?_
          rintro e z2 ⟨rfl, hz2⟩
          go_wp2_with fail
          refine (HZD.out _).mono ?_
          rintro e z3 ⟨rfl, hz3⟩
          go_wp2_with fail
          refine (HZP.out _).mono ?_
          rintro e z4 ⟨rfl, hz4⟩
          go_wp2_with fail
          refine (HZQ.out _).mono ?_
          rintro e z5 ⟨rfl, hz5⟩
          have hq5 := BT (BT (BT (BT hz1 hz2) hz3) hz4) hz5
          have hWA := BT hW13 hq5
          have HCQ : Hid (∀ Y, Below z5.heap.size z5 Y → Setts Y sc ss ∧ Spans Y sp xs) := fun Y hY => hHCP.out Y (BT hq5 hY)
          have HAQ : Hid (∀ Y, Below z5.heap.size z5 Y → BoxM Y B h xs ss ∧ BoxM Y g11 X xs (flipS ss) ∧ BoxM Y g12 Yh xs (yS h.images y ss) ∧ Y.cell? ⟨B + 1, 0, none⟩ = some (.int .u8 y) ∧ Y.cell? ⟨g10, 0, none⟩ = some (.int .i64 h.ns)) := fun Y hY => HA.out Y (BT hWA hY)
          have HWA := Lib.hid (BT HW0.out hWA)
          clear hz1 hz2 hz3 hz4 hz5 hW13 hq5 hWA HZC HZD HZP HZQ HBK hHCP HCP HA HW0 hi1 hi2 hi3 hi4 HIO hWc13 HMS
          obtain ⟨z6, rfl⟩ : ∃ z6 : World, z6 = z5 := ⟨_, rfl⟩
          have hN9 : h.ns ≤ 9223372036854775807 := by omega
          have hNi : (h.ns : Int) ≤ 9223372036854775807 := by omega
          go_upto_region 33 with fail
          go_loopw [258] (fun i wr => ∃ k : Nat, k ≤ h.ns ∧ i = .int .i64 k ∧ Below z6.heap.size z6 wr) (fun i _ => h.ns - (intOf i).toNat)
          case atStart => exact ⟨0, by omega, rfl, Below.refl _ _⟩
          case round =>
            obtain ⟨k, hk, rfl, hB⟩ := hrel
            have hk0 : (0 : Int) ≤ (k : Int) := by omega
            by_cases hlt : k < h.ns
            · have hkl : k < ss.length := by rw [HNS.out]; exact hlt
              have hltI : (k : Int) < (h.ns : Int) := by omega
              have hc6 := (HAQ.out wr hB).1.c6
              rcases (HAQ.out wr hB).1.has.st with hnil | ⟨b1, o1, hsa1, _, hc1⟩
              · exfalso; rw [hnil] at hkl; simp at hkl
              rcases (HCQ.out wr hB).1 with hnil | ⟨b2, o2, hsa2, _, hc2⟩
              · exfalso; rw [hnil] at hkl; simp at hkl
              obtain ⟨d0, d1, d2, _⟩ := hc1 k hkl
              obtain ⟨e0, e1, e2, _⟩ := hc2 k hkl
              clear hc1 hc2
              rw [hsa1] at hc6
              generalize ss.getD k (0, 0, false) = s at d0 d1 d2 e0 e1 e2
              obtain ⟨im, rd, rv⟩ := s
              dsimp only at d0 d1 d2 e0 e1 e2
              subst hsa2
              have hBd := Below.drew hB
              have hSS : Hid (∀ X, Below wr.heap.size wr X → X.cell? ⟨B, 6, none⟩ = some (.slice (some ⟨b1, o1, none⟩) h.ns h.scap) ∧ X.cell? ⟨b1, o1 + k * 3, none⟩ = some (.int .i64 im) ∧ X.cell? ⟨b1, o1 + k * 3 + 1, none⟩ = some (.int .i64 rd) ∧ X.cell? ⟨b1, o1 + k * 3 + 2, none⟩ = some (.bool rv) ∧ X.cell? ⟨b2, o2 + k * 3, none⟩ = some (.int .i64 im) ∧ X.cell? ⟨b2, o2 + k * 3 + 1, none⟩ = some (.int .i64 rd) ∧ X.cell? ⟨b2, o2 + k * 3 + 2, none⟩ = some (.bool rv)) := fun X hX => ⟨cellB hc6 hX, cellB d0 hX, cellB d1 hX, cellB d2 hX, cellB e0 hX, cellB e1 hX, cellB e2 hX⟩
              go_upto_region 35 with fail
              refine wp_region_seq [(0, true), (1, true), (2, true), (3, true), (4, true), (5, true), (6, true), (7, true), (8, true), (9, true)] (fun w' => w'.cell? ⟨B, 6, none⟩ = some (.slice (some ⟨b1, o1, none⟩) h.ns h.scap) ∧ w'.cell? ⟨b1, o1 + k * 3, none⟩ = some (.int .i64 im) ∧ w'.cell? ⟨b1, o1 + k * 3 + 1, none⟩ = some (.int .i64 rd) ∧ w'.cell? ⟨b1, o1 + k * 3 + 2, none⟩ = some (.bool rv) ∧ w'.cell? ⟨b2, o2 + k * 3, none⟩ = some (.int .i64 im) ∧ w'.cell? ⟨b2, o2 + k * 3 + 1, none⟩ = some (.int .i64 rd) ∧ w'.cell? ⟨b2, o2 + k * 3 + 2, none⟩ = some (.bool rv)) (by kernel_rfl) (by kernel_rfl) (fun _ _ d _ _ h => by cases d <;> exact h) (hSS.out _ (Below.drew (Below.refl _ _))) ?_
              generalize wr.drew = X0 at hBd ⊢
              clear hc6 d0 d1 d2 e0 e1 e2
              repeat (first | (refine seq_read rfl (by rfl) _ (fun w' hS => by (try dsimp only at hS); go_simp; (try with_reducible rfl)) ?_; (try simp only [Act.put, List.setIfInBounds_toArray, List.set_cons_zero, List.set_cons_succ])) | (refine seq_skip rfl (by rfl) ?_; (try simp only [Act.put, List.setIfInBounds_toArray, List.set_cons_zero, List.set_cons_succ])))
              refine seq_end ?_
              show Exit.then _ _ Exit.normal _ _
              go_wp2_with fail
              go_roundw
              case rel => exact ⟨k + 1, by omega, by go_num, hBd⟩
              case measure => simp [intOf]; omega
            · obtain rfl : k = h.ns := by omega
              have HAR : Hid (∀ Y, Below wr.heap.size wr Y → BoxM Y B h xs ss ∧ BoxM Y g11 X xs (flipS ss) ∧ BoxM Y g12 Yh xs (yS h.images y ss) ∧ Y.cell? ⟨B + 1, 0, none⟩ = some (.int .u8 y) ∧ Y.cell? ⟨g10, 0, none⟩ = some (.int .i64 h.ns)) := fun Y hY => HAQ.out Y (BT hB hY)
              have HCR : Hid (∀ Y, Below wr.heap.size wr Y → Setts Y sc ss ∧ Spans Y sp xs) := fun Y hY => HCQ.out Y (BT hB hY)
              have HWB := Lib.hid (BT HWA.out hB)
              clear HAQ HCQ HWA hB hk hk0 hlt hN9 hNi
              obtain ⟨HAQ, HCQ, HWA⟩ : (Hid (∀ Y, Below wr.heap.size wr Y → BoxM Y B h xs ss ∧ BoxM Y g11 X xs (flipS ss) ∧ BoxM Y g12 Yh xs (yS h.images y ss) ∧ Y.cell? ⟨B + 1, 0, none⟩ = some (.int .u8 y) ∧ Y.cell? ⟨g10, 0, none⟩ = some (.int .i64 h.ns))) ∧ (Hid (∀ Y, Below wr.heap.size wr Y → Setts Y sc ss ∧ Spans Y sp xs)) ∧ Hid (Below w.heap.size w wr) := ⟨HAR, HCR, HWB⟩
              clear HAR HCR HWB
              obtain ⟨z7, rfl⟩ : ∃ z7 : World, z7 = wr := ⟨_, rfl⟩
              have hN9 : h.n ≤ 9223372036854775807 := by omega
              have hNi : (h.n : Int) ≤ 9223372036854775807 := by omega
              go_upto_region 39 with fail
              go_loopw [274] (fun i wr => ∃ k : Nat, k ≤ h.n ∧ i = .int .i64 k ∧ Below z7.heap.size z7 wr) (fun i _ => h.n - (intOf i).toNat)
              case atStart => exact ⟨0, by omega, rfl, Below.refl _ _⟩
              case round =>
                obtain ⟨k, hk, rfl, hB⟩ := hrel
                have hk0 : (0 : Int) ≤ (k : Int) := by omega
                by_cases hlt : k < h.n
                · have hkl : k < xs.length := by rw [HNX.out]; exact hlt
                  have hltI : (k : Int) < (h.n : Int) := by omega
                  have hc6 := (HAQ.out wr hB).1.c0
                  rcases (HAQ.out wr hB).1.has.sp with hnil | ⟨b1, o1, hsa1, _, hc1⟩
                  · exfalso; rw [hnil] at hkl; simp at hkl
                  rcases (HCQ.out wr hB).2 with hnil | ⟨b2, o2, hsa2, _, hc2⟩
                  · exfalso; rw [hnil] at hkl; simp at hkl
                  obtain ⟨d0, d1⟩ := hc1 k hkl
                  obtain ⟨e0, e1⟩ := hc2 k hkl
                  clear hc1 hc2
                  rw [hsa1] at hc6
                  generalize xs.getD k (0, 0) = s at d0 d1 e0 e1
                  obtain ⟨lo, hi⟩ := s
                  dsimp only at d0 d1 e0 e1
                  subst hsa2
                  have hBd := Below.drew hB
                  have hSS : Hid (∀ X, Below wr.heap.size wr X → X.cell? ⟨B, 0, none⟩ = some (.slice (some ⟨b1, o1, none⟩) h.n h.cap) ∧ X.cell? ⟨b1, o1 + k * 2, none⟩ = some (.int .i64 lo) ∧ X.cell? ⟨b1, o1 + k * 2 + 1, none⟩ = some (.int .i64 hi) ∧ X.cell? ⟨b2, o2 + k * 2, none⟩ = some (.int .i64 lo) ∧ X.cell? ⟨b2, o2 + k * 2 + 1, none⟩ = some (.int .i64 hi)) := fun X hX => ⟨cellB hc6 hX, cellB d0 hX, cellB d1 hX, cellB e0 hX, cellB e1 hX⟩
                  go_upto_region 41 with fail
                  refine wp_region_seq [(0, true), (1, true), (2, true), (3, true), (4, true), (5, true), (6, true), (7, true), (8, true), (9, true), (10, true)] (fun w' => w'.cell? ⟨B, 0, none⟩ = some (.slice (some ⟨b1, o1, none⟩) h.n h.cap) ∧ w'.cell? ⟨b1, o1 + k * 2, none⟩ = some (.int .i64 lo) ∧ w'.cell? ⟨b1, o1 + k * 2 + 1, none⟩ = some (.int .i64 hi) ∧ w'.cell? ⟨b2, o2 + k * 2, none⟩ = some (.int .i64 lo) ∧ w'.cell? ⟨b2, o2 + k * 2 + 1, none⟩ = some (.int .i64 hi)) (by kernel_rfl) (by kernel_rfl) (fun _ _ d _ _ h => by cases d <;> exact h) (hSS.out _ (Below.drew (Below.refl _ _))) ?_
                  generalize wr.drew = X0 at hBd ⊢
                  clear hc6 d0 d1 e0 e1
                  repeat (first | (refine seq_read rfl (by rfl) _ (fun w' hS => by (try dsimp only at hS); go_simp; (try with_reducible rfl)) ?_; (try simp only [Act.put, List.setIfInBounds_toArray, List.set_cons_zero, List.set_cons_succ])) | (refine seq_skip rfl (by rfl) ?_; (try simp only [Act.put, List.setIfInBounds_toArray, List.set_cons_zero, List.set_cons_succ])))
                  refine seq_end ?_
                  show Exit.then _ _ Exit.normal _ _
                  go_wp2_with fail
                  go_roundw
                  case rel => exact ⟨k + 1, by omega, by go_num, hBd⟩
                  case measure => simp [intOf]; omega
                · obtain rfl : k = h.n := by omega
                  have HAR : Hid (∀ Y, Below wr.heap.size wr Y → BoxM Y B h xs ss ∧ BoxM Y g11 X xs (flipS ss) ∧ BoxM Y g12 Yh xs (yS h.images y ss) ∧ Y.cell? ⟨B + 1, 0, none⟩ = some (.int .u8 y) ∧ Y.cell? ⟨g10, 0, none⟩ = some (.int .i64 h.ns)) := fun Y hY => HAQ.out Y (BT hB hY)
                  have HCR : Hid (∀ Y, Below wr.heap.size wr Y → Setts Y sc ss ∧ Spans Y sp xs) := fun Y hY => HCQ.out Y (BT hB hY)
                  have HWB := Lib.hid (BT HWA.out hB)
                  clear HAQ HCQ HWA hB hk hk0 hlt hN9 hNi
                  obtain ⟨HAQ, HCQ, HWA⟩ : (Hid (∀ Y, Below wr.heap.size wr Y → BoxM Y B h xs ss ∧ BoxM Y g11 X xs (flipS ss) ∧ BoxM Y g12 Yh xs (yS h.images y ss) ∧ Y.cell? ⟨B + 1, 0, none⟩ = some (.int .u8 y) ∧ Y.cell? ⟨g10, 0, none⟩ = some (.int .i64 h.ns))) ∧ (Hid (∀ Y, Below wr.heap.size wr Y → Setts Y sc ss ∧ Spans Y sp xs)) ∧ Hid (Below w.heap.size w wr) := ⟨HAR, HCR, HWB⟩
                  clear HAR HCR HWB
                  obtain ⟨z8, rfl⟩ : ∃ z8 : World, z8 = wr := ⟨_, rfl⟩
                  by_cases h1 : a < 0
                  · skip
                    clear HAQ HCQ
                    go_wp2_with fail
                    refine (alive_any _).mono ?_
                    rintro e ze ⟨rfl, hze⟩
                    go_wp2
                    go_ret
                    exact ⟨rfl, BT HWA.out hze⟩
                  by_cases h2 : b < 0
                  · skip
                    clear HAQ HCQ
                    go_wp2_with fail
                    refine (alive_any _).mono ?_
                    rintro e ze ⟨rfl, hze⟩
                    go_wp2
                    go_ret
                    exact ⟨rfl, BT HWA.out hze⟩
                  have hc3 := (HAQ.out _ (Below.refl _ _)).1.c3
                  by_cases h3 : a ≥ h.images
                  · skip
                    clear HAQ HCQ
                    go_wp2_with fail
                    refine (alive_any _).mono ?_
                    rintro e ze ⟨rfl, hze⟩
                    go_wp2
                    go_ret
                    exact ⟨rfl, BT HWA.out hze⟩
                  by_cases h4 : b ≥ h.images
                  · skip
                    clear HAQ HCQ
                    go_wp2_with fail
                    refine (alive_any _).mono ?_
                    rintro e ze ⟨rfl, hze⟩
                    go_wp2
                    go_ret
                    exact ⟨rfl, BT HWA.out hze⟩
                  go_upto_region 46 with fail
                  clear hc3 HCQ
                  obtain ⟨v1, v2, wv, p1, p2, gp, qa, qax, qay, qp, qpy, ⟨hva, hvb⟩, hvc, hvd⟩ := HTAB.out ⟨⟨by omega, by omega⟩, by omega, by omega⟩
                  have HNA0 : Hid (∀ Y, Below z8.heap.size z8 Y → Calls Try.prog 44 #[.int .i64 a, .pointer (some ⟨B + 1, 0, none⟩), .pointer (some ⟨B, 0, none⟩)] Y (Ret (.int .i64 (numI h.images y a)) Y)) := fun Y hY =>
                    num44_any B (B + 1) a y h.images Y (HAQ.out Y hY).2.2.2.1 (HAQ.out Y hY).1.c3 (by have := HVI.out; omega) ⟨hy0, hy1⟩ HVI.out
                  have HNB0 : Hid (∀ Y, Below z8.heap.size z8 Y → Calls Try.prog 44 #[.int .i64 b, .pointer (some ⟨B + 1, 0, none⟩), .pointer (some ⟨B, 0, none⟩)] Y (Ret (.int .i64 (numI h.images y b)) Y)) := fun Y hY =>
                    num44_any B (B + 1) b y h.images Y (HAQ.out Y hY).2.2.2.1 (HAQ.out Y hY).1.c3 (by have := HVI.out; omega) ⟨hy0, hy1⟩ HVI.out
                  have HQ1 : Hid (∀ Y, Below z8.heap.size z8 Y → Calls Try.prog 22 #[.agg #[.slice h.a h.n h.cap, .int .i64 h.eLo, .int .i64 h.eHi, .int .i64 h.images, .int .i64 h.sLo, .int .i64 h.sHi, .slice h.sa h.ns h.scap], .int .i64 a, .int .i64 b] Y (Ret (.tuple #[.agg #[.int .i64 v1, .int .i64 v2], .int .i64 wv]) Y)) := fun Y hY => by
                    have := apart_any a b h xs ss Y (HAQ.out Y hY).1.has
                    rw [qa] at this; exact this
                  have HQ2 : Hid (∀ Y, Below z8.heap.size z8 Y → Calls Try.prog 22 #[.agg #[.slice X.a X.n X.cap, .int .i64 X.eLo, .int .i64 X.eHi, .int .i64 X.images, .int .i64 X.sLo, .int .i64 X.sHi, .slice X.sa X.ns X.scap], .int .i64 a, .int .i64 b] Y (Ret (.tuple #[.agg #[.int .i64 (-v2), .int .i64 (-v1)], .int .i64 wv]) Y)) := fun Y hY => by
                    have := apart_any a b X xs (flipS ss) Y (HAQ.out Y hY).2.1.has
                    rw [qax] at this; exact this
                  have HQ3 : Hid (∀ Y, Below z8.heap.size z8 Y → Calls Try.prog 22 #[.agg #[.slice Yh.a Yh.n Yh.cap, .int .i64 Yh.eLo, .int .i64 Yh.eHi, .int .i64 Yh.images, .int .i64 Yh.sLo, .int .i64 Yh.sHi, .slice Yh.sa Yh.ns Yh.scap], .int .i64 (numI h.images y a), .int .i64 (numI h.images y b)] Y (Ret (.tuple #[.agg #[.int .i64 v1, .int .i64 v2], .int .i64 wv]) Y)) := fun Y hY => by
                    have := apart_any (numI h.images y a) (numI h.images y b) Yh xs (yS h.images y ss) Y (HAQ.out Y hY).2.2.1.has
                    rw [qay] at this; exact this
                  have HQ4 : Hid (∀ Y, Below z8.heap.size z8 Y → Calls Try.prog 20 #[.agg #[.slice h.a h.n h.cap, .int .i64 h.eLo, .int .i64 h.eHi, .int .i64 h.images, .int .i64 h.sLo, .int .i64 h.sHi, .slice h.sa h.ns h.scap], .int .i64 a] Y (Ret (.tuple #[.agg #[.int .i64 p1, .int .i64 p2], .int .i64 gp]) Y)) := fun Y hY => by
                    have := place_any a h xs ss Y (HAQ.out Y hY).1.has
                    rw [qp] at this; exact this
                  have HQ5 : Hid (∀ Y, Below z8.heap.size z8 Y → Calls Try.prog 20 #[.agg #[.slice Yh.a Yh.n Yh.cap, .int .i64 Yh.eLo, .int .i64 Yh.eHi, .int .i64 Yh.images, .int .i64 Yh.sLo, .int .i64 Yh.sHi, .slice Yh.sa Yh.ns Yh.scap], .int .i64 (numI h.images y a)] Y (Ret (.tuple #[.agg #[.int .i64 p1, .int .i64 p2], .int .i64 gp]) Y)) := fun Y hY => by
                    have := place_any (numI h.images y a) Yh xs (yS h.images y ss) Y (HAQ.out Y hY).2.2.1.has
                    rw [qpy] at this; exact this
                  generalize numI h.images y a = na at HNA0 HQ3 HQ5
                  generalize numI h.images y b = nb at HNB0 HQ3
                  clear qa qax qay qp qpy HTAB h1 h2 h3 h4
                  obtain ⟨c0, c1, c2, c3, c4, c5, c6, hh⟩ := (HAQ.out _ (Below.refl _ _)).1
                  clear hh
                  go_wp2_with fail
                  refine (HQ1.out _ (Below.refl _ _)).mono ?_
                  rintro e x1 ⟨rfl, hx1⟩
                  clear c0 c1 c2 c3 c4 c5 c6 HQ1
                  have hZ := BT hx1 (newB x1 (.cells #[.int .i64 v1, .int .i64 v2] 24))
                  have HT47 := Lib.hid (show Two x1.heap.size v1 v2 (x1.alloc (.cells #[.int .i64 v1, .int .i64 v2] 24)) from two_newT x1 _ _ 24)
                  go_upto_region 47 with fail
                  generalize x1.heap.size = g47 at HT47 ⊢
                  generalize x1.alloc (.cells #[.int .i64 v1, .int .i64 v2] 24) = u1 at hZ HT47 ⊢
                  have hV1 := hZ
                  clear hZ hx1
                  obtain ⟨c0, c1, c2, c3, c4, c5, c6, hh⟩ := (HAQ.out _ hV1).2.1
                  clear hh
                  go_wp2_with fail
                  refine (HQ2.out _ hV1).mono ?_
                  rintro e x1 ⟨rfl, hx1⟩
                  clear c0 c1 c2 c3 c4 c5 c6 HQ2
                  have hZ := BT hx1 (newB x1 (.cells #[.int .i64 (-v2), .int .i64 (-v1)] 24))
                  have HT49 := Lib.hid (show Two x1.heap.size (-v2) (-v1) (x1.alloc (.cells #[.int .i64 (-v2), .int .i64 (-v1)] 24)) from two_newT x1 _ _ 24)
                  go_upto_region 48 with fail
                  generalize x1.heap.size = g49 at HT49 ⊢
                  generalize x1.alloc (.cells #[.int .i64 (-v2), .int .i64 (-v1)] 24) = u2 at hZ HT49 ⊢
                  have hV2 := BT hV1 hZ
                  have HT47b := Lib.hid (HT47.out.grown hZ)
                  clear hZ hx1 hV1 HT47
                  have hSG : Hid (∀ X0, Below u2.heap.size u2 X0 → X0.cell? ⟨g12, 0, none⟩ = some (.slice Yh.a Yh.n Yh.cap) ∧ X0.cell? ⟨g12, 1, none⟩ = some (.int .i64 Yh.eLo) ∧ X0.cell? ⟨g12, 2, none⟩ = some (.int .i64 Yh.eHi) ∧ X0.cell? ⟨g12, 3, none⟩ = some (.int .i64 Yh.images) ∧ X0.cell? ⟨g12, 4, none⟩ = some (.int .i64 Yh.sLo) ∧ X0.cell? ⟨g12, 5, none⟩ = some (.int .i64 Yh.sHi) ∧ X0.cell? ⟨g12, 6, none⟩ = some (.slice Yh.sa Yh.ns Yh.scap)) := fun X0 hX => by
                    obtain ⟨i0, i1, i2, i3, i4, i5, i6, _⟩ := (HAQ.out X0 (BT hV2 hX)).2.2.1
                    exact ⟨i0, i1, i2, i3, i4, i5, i6⟩
                  have HNA : Hid (∀ Y, Below u2.heap.size u2 Y → Calls Try.prog 44 #[.int .i64 a, .pointer (some ⟨B + 1, 0, none⟩), .pointer (some ⟨B, 0, none⟩)] Y (Ret (.int .i64 na) Y)) := fun Y hY => HNA0.out Y (BT hV2 hY)
                  have HNB : Hid (∀ Y, Below u2.heap.size u2 Y → Calls Try.prog 44 #[.int .i64 b, .pointer (some ⟨B + 1, 0, none⟩), .pointer (some ⟨B, 0, none⟩)] Y (Ret (.int .i64 nb) Y)) := fun Y hY => HNB0.out Y (BT hV2 hY)
                  have HQY : Hid (∀ Y, Below u2.heap.size u2 Y → Calls Try.prog 22 #[.agg #[.slice Yh.a Yh.n Yh.cap, .int .i64 Yh.eLo, .int .i64 Yh.eHi, .int .i64 Yh.images, .int .i64 Yh.sLo, .int .i64 Yh.sHi, .slice Yh.sa Yh.ns Yh.scap], .int .i64 na, .int .i64 nb] Y (Ret (.tuple #[.agg #[.int .i64 v1, .int .i64 v2], .int .i64 wv]) Y)) := fun Y hY => HQ3.out Y (BT hV2 hY)
                  have hB0 : Below u2.heap.size u2 u2.drew := Below.drew (Below.refl _ _)
                  clear HQ3 HNB0
                  go_cut [51, 52] from 322 to 332 (fun a51 a52 X => ∃ g51 : Nat, a51 = .pointer (some ⟨g51, 0, none⟩) ∧ a52 = .int .i64 wv ∧ Two g51 v1 v2 X ∧ Below u2.heap.size u2 X)
                  case first =>
                    clear HNA0 HQ4 HQ5
                    refine wp_region_tree (.read 0 (.read 1 (.read 2 (.read 4 (.read 5 (.two 3 (.two 6 (.two 7 (.read 8 (.read 9 (.read 10 (.one 11 (.one 12 (.read 13 (.leaf))))))) 11 (.one 7 (.read 8 (.read 9 (.read 10 (.one 12 (.read 13 (.leaf)))))))) 11 (.one 6 (.one 7 (.read 8 (.read 9 (.read 10 (.one 12 (.read 13 (.leaf))))))))) 11 (.one 3 (.one 6 (.one 7 (.read 8 (.read 9 (.read 10 (.one 12 (.read 13 (.leaf))))))))))))))) (fun w' => w'.cell? ⟨g12, 0, none⟩ = some (.slice Yh.a Yh.n Yh.cap) ∧ w'.cell? ⟨g12, 1, none⟩ = some (.int .i64 Yh.eLo) ∧ w'.cell? ⟨g12, 2, none⟩ = some (.int .i64 Yh.eHi) ∧ w'.cell? ⟨g12, 3, none⟩ = some (.int .i64 Yh.images) ∧ w'.cell? ⟨g12, 4, none⟩ = some (.int .i64 Yh.sLo) ∧ w'.cell? ⟨g12, 5, none⟩ = some (.int .i64 Yh.sHi) ∧ w'.cell? ⟨g12, 6, none⟩ = some (.slice Yh.sa Yh.ns Yh.scap)) (by kernel_rfl) (by kernel_rfl) (fun _ _ d _ _ h => by cases d <;> exact h) (hSG.out _ hB0) ?_
                    generalize u2.drew = X0 at hB0 ⊢
                    repeat (first | (refine tr_read rfl (by rfl) _ (fun w' hS => by (try dsimp only at hS); go_simp; (try with_reducible rfl)) ?_; (try simp only [Act.put, List.setIfInBounds_toArray, List.set_cons_zero, List.set_cons_succ])) | (refine tr_skip rfl (by rfl) ?_; (try simp only [Act.put, List.setIfInBounds_toArray, List.set_cons_zero, List.set_cons_succ])))
                    refine ⟨?_, ?_⟩
                    · skip
                      refine tr_step rfl (by rfl) (fun K hK => ?_)
                      go_simp
                      refine (HNA.out X0 hB0).mono ?_
                      rintro e X1 ⟨rfl, hb1⟩
                      have hB1 := BT hB0 hb1
                      refine hK _ _ (hSG.out _ hB1) ?_
                      clear hK K hB0 hb1
                      (try simp only [Act.put, List.setIfInBounds_toArray, List.set_cons_zero, List.set_cons_succ])
                      refine ⟨?_, ?_⟩
                      · skip
                        refine tr_step rfl (by rfl) (fun K hK => ?_)
                        go_simp
                        refine (HNB.out X1 hB1).mono ?_
                        rintro e X2 ⟨rfl, hb2⟩
                        have hB2 := BT hB1 hb2
                        refine hK _ _ (hSG.out _ hB2) ?_
                        clear hK K hB1 hb2
                        (try simp only [Act.put, List.setIfInBounds_toArray, List.set_cons_zero, List.set_cons_succ])
                        refine ⟨?_, ?_⟩
                        · skip
                          refine tr_step rfl (by rfl) (fun K hK => ?_)
                          go_simp
                          refine (HQY.out X2 hB2).mono ?_
                          rintro e X3 ⟨rfl, hb3⟩
                          have hB3 := BT hB2 hb3
                          refine hK _ _ (hSG.out _ hB3) ?_
                          clear hK K hB2 hb3
                          (try simp only [Act.put, List.setIfInBounds_toArray, List.set_cons_zero, List.set_cons_succ])
                          repeat (first | (refine tr_read rfl (by rfl) _ (fun w' hS => by (try dsimp only at hS); go_simp; (try with_reducible rfl)) ?_; (try simp only [Act.put, List.setIfInBounds_toArray, List.set_cons_zero, List.set_cons_succ])) | (refine tr_skip rfl (by rfl) ?_; (try simp only [Act.put, List.setIfInBounds_toArray, List.set_cons_zero, List.set_cons_succ])))
                          refine tr_step rfl (by rfl) (fun K hK => ?_)
                          have hB4 := BA hB3 (.cells #[.int .i64 0, .int .i64 0] 24)
                          have h11_4 := slots_new2 X3 24
                          have hg11 := hB3.size
                          go_simp
                          generalize X3.heap.size = g11 at *
                          generalize X3.alloc (.cells #[.int .i64 0, .int .i64 0] 24) = X4 at *
                          refine hK _ _ (hSG.out _ hB4) ?_
                          clear hK K hB3 
                          (try simp only [Act.put, List.setIfInBounds_toArray, List.set_cons_zero, List.set_cons_succ])
                          refine tr_step rfl (by rfl) (fun K hK => ?_)
                          obtain ⟨u0_5, q0_5, f0_5⟩ := h11_4.get 0 (by omega)
                          obtain ⟨u1_5, q1_5, f1_5⟩ := h11_4.get 1 (by omega)
                          have hB5 := BC (BC hB4 g11 0 hg11 (.int .i64 (v1))) g11 1 hg11 (.int .i64 (v2))
                          have h11_5 := two_set h11_4 (v1) (v2)
                          go_simp
                          clear q0_5 f0_5 q1_5 f1_5
                          generalize (X4.setCell ⟨g11, 0, none⟩ (.int .i64 (v1))).setCell ⟨g11, 1, none⟩ (.int .i64 (v2)) = X5 at *
                          refine hK _ _ (hSG.out _ hB5) ?_
                          clear hK K hB4 h11_4
                          (try simp only [Act.put, List.setIfInBounds_toArray, List.set_cons_zero, List.set_cons_succ])
                          repeat (first | (refine tr_read rfl (by rfl) _ (fun w' hS => by (try dsimp only at hS); go_simp; (try with_reducible rfl)) ?_; (try simp only [Act.put, List.setIfInBounds_toArray, List.set_cons_zero, List.set_cons_succ])) | (refine tr_skip rfl (by rfl) ?_; (try simp only [Act.put, List.setIfInBounds_toArray, List.set_cons_zero, List.set_cons_succ])))
                          show Exit.then _ _ Exit.normal _ _
                          go_wp2_with fail
                          go_meet
                          exact ⟨g11, rfl, rfl, h11_5, hB5⟩
                        · skip
                          refine tr_step rfl (by rfl) (fun K hK => ?_)
                          have hB6 := BA hB2 (.cells #[.int .i64 0, .int .i64 0] 24)
                          have h11_6 := slots_new2 X2 24
                          have hg11 := hB2.size
                          go_simp
                          generalize X2.heap.size = g11 at *
                          generalize X2.alloc (.cells #[.int .i64 0, .int .i64 0] 24) = X6 at *
                          refine hK _ _ (hSG.out _ hB6) ?_
                          clear hK K hB2 
                          (try simp only [Act.put, List.setIfInBounds_toArray, List.set_cons_zero, List.set_cons_succ])
                          refine tr_step rfl (by rfl) (fun K hK => ?_)
                          go_simp
                          refine (HQY.out X6 hB6).mono ?_
                          rintro e X7 ⟨rfl, hb7⟩
                          have hB7 := BT hB6 hb7
                          have h11_7 := h11_6.below hb7 (h11_6.lt2)
                          refine hK _ _ (hSG.out _ hB7) ?_
                          clear hK K hB6 h11_6 hb7
                          (try simp only [Act.put, List.setIfInBounds_toArray, List.set_cons_zero, List.set_cons_succ])
                          repeat (first | (refine tr_read rfl (by rfl) _ (fun w' hS => by (try dsimp only at hS); go_simp; (try with_reducible rfl)) ?_; (try simp only [Act.put, List.setIfInBounds_toArray, List.set_cons_zero, List.set_cons_succ])) | (refine tr_skip rfl (by rfl) ?_; (try simp only [Act.put, List.setIfInBounds_toArray, List.set_cons_zero, List.set_cons_succ])))
                          refine tr_step rfl (by rfl) (fun K hK => ?_)
                          obtain ⟨u0_8, q0_8, f0_8⟩ := h11_7.get 0 (by omega)
                          obtain ⟨u1_8, q1_8, f1_8⟩ := h11_7.get 1 (by omega)
                          have hB8 := BC (BC hB7 g11 0 hg11 (.int .i64 (v1))) g11 1 hg11 (.int .i64 (v2))
                          have h11_8 := two_set h11_7 (v1) (v2)
                          go_simp
                          clear q0_8 f0_8 q1_8 f1_8
                          generalize (X7.setCell ⟨g11, 0, none⟩ (.int .i64 (v1))).setCell ⟨g11, 1, none⟩ (.int .i64 (v2)) = X8 at *
                          refine hK _ _ (hSG.out _ hB8) ?_
                          clear hK K hB7 h11_7
                          (try simp only [Act.put, List.setIfInBounds_toArray, List.set_cons_zero, List.set_cons_succ])
                          repeat (first | (refine tr_read rfl (by rfl) _ (fun w' hS => by (try dsimp only at hS); go_simp; (try with_reducible rfl)) ?_; (try simp only [Act.put, List.setIfInBounds_toArray, List.set_cons_zero, List.set_cons_succ])) | (refine tr_skip rfl (by rfl) ?_; (try simp only [Act.put, List.setIfInBounds_toArray, List.set_cons_zero, List.set_cons_succ])))
                          show Exit.then _ _ Exit.normal _ _
                          go_wp2_with fail
                          go_meet
                          exact ⟨g11, rfl, rfl, h11_8, hB8⟩
                      · skip
                        refine tr_step rfl (by rfl) (fun K hK => ?_)
                        have hB9 := BA hB1 (.cells #[.int .i64 0, .int .i64 0] 24)
                        have h11_9 := slots_new2 X1 24
                        have hg11 := hB1.size
                        go_simp
                        generalize X1.heap.size = g11 at *
                        generalize X1.alloc (.cells #[.int .i64 0, .int .i64 0] 24) = X9 at *
                        refine hK _ _ (hSG.out _ hB9) ?_
                        clear hK K hB1 
                        (try simp only [Act.put, List.setIfInBounds_toArray, List.set_cons_zero, List.set_cons_succ])
                        refine tr_step rfl (by rfl) (fun K hK => ?_)
                        go_simp
                        refine (HNB.out X9 hB9).mono ?_
                        rintro e X10 ⟨rfl, hb10⟩
                        have hB10 := BT hB9 hb10
                        have h11_10 := h11_9.below hb10 (h11_9.lt2)
                        refine hK _ _ (hSG.out _ hB10) ?_
                        clear hK K hB9 h11_9 hb10
                        (try simp only [Act.put, List.setIfInBounds_toArray, List.set_cons_zero, List.set_cons_succ])
                        refine tr_step rfl (by rfl) (fun K hK => ?_)
                        go_simp
                        refine (HQY.out X10 hB10).mono ?_
                        rintro e X11 ⟨rfl, hb11⟩
                        have hB11 := BT hB10 hb11
                        have h11_11 := h11_10.below hb11 (h11_10.lt2)
                        refine hK _ _ (hSG.out _ hB11) ?_
                        clear hK K hB10 h11_10 hb11
                        (try simp only [Act.put, List.setIfInBounds_toArray, List.set_cons_zero, List.set_cons_succ])
                        repeat (first | (refine tr_read rfl (by rfl) _ (fun w' hS => by (try dsimp only at hS); go_simp; (try with_reducible rfl)) ?_; (try simp only [Act.put, List.setIfInBounds_toArray, List.set_cons_zero, List.set_cons_succ])) | (refine tr_skip rfl (by rfl) ?_; (try simp only [Act.put, List.setIfInBounds_toArray, List.set_cons_zero, List.set_cons_succ])))
                        refine tr_step rfl (by rfl) (fun K hK => ?_)
                        obtain ⟨u0_12, q0_12, f0_12⟩ := h11_11.get 0 (by omega)
                        obtain ⟨u1_12, q1_12, f1_12⟩ := h11_11.get 1 (by omega)
                        have hB12 := BC (BC hB11 g11 0 hg11 (.int .i64 (v1))) g11 1 hg11 (.int .i64 (v2))
                        have h11_12 := two_set h11_11 (v1) (v2)
                        go_simp
                        clear q0_12 f0_12 q1_12 f1_12
                        generalize (X11.setCell ⟨g11, 0, none⟩ (.int .i64 (v1))).setCell ⟨g11, 1, none⟩ (.int .i64 (v2)) = X12 at *
                        refine hK _ _ (hSG.out _ hB12) ?_
                        clear hK K hB11 h11_11
                        (try simp only [Act.put, List.setIfInBounds_toArray, List.set_cons_zero, List.set_cons_succ])
                        repeat (first | (refine tr_read rfl (by rfl) _ (fun w' hS => by (try dsimp only at hS); go_simp; (try with_reducible rfl)) ?_; (try simp only [Act.put, List.setIfInBounds_toArray, List.set_cons_zero, List.set_cons_succ])) | (refine tr_skip rfl (by rfl) ?_; (try simp only [Act.put, List.setIfInBounds_toArray, List.set_cons_zero, List.set_cons_succ])))
                        show Exit.then _ _ Exit.normal _ _
                        go_wp2_with fail
                        go_meet
                        exact ⟨g11, rfl, rfl, h11_12, hB12⟩
                    · skip
                      refine tr_step rfl (by rfl) (fun K hK => ?_)
                      have hB13 := BA hB0 (.cells #[.int .i64 0, .int .i64 0] 24)
                      have h11_13 := slots_new2 X0 24
                      have hg11 := hB0.size
                      go_simp
                      generalize X0.heap.size = g11 at *
                      generalize X0.alloc (.cells #[.int .i64 0, .int .i64 0] 24) = X13 at *
                      refine hK _ _ (hSG.out _ hB13) ?_
                      clear hK K hB0 
                      (try simp only [Act.put, List.setIfInBounds_toArray, List.set_cons_zero, List.set_cons_succ])
                      refine tr_step rfl (by rfl) (fun K hK => ?_)
                      go_simp
                      refine (HNA.out X13 hB13).mono ?_
                      rintro e X14 ⟨rfl, hb14⟩
                      have hB14 := BT hB13 hb14
                      have h11_14 := h11_13.below hb14 (h11_13.lt2)
                      refine hK _ _ (hSG.out _ hB14) ?_
                      clear hK K hB13 h11_13 hb14
                      (try simp only [Act.put, List.setIfInBounds_toArray, List.set_cons_zero, List.set_cons_succ])
                      refine tr_step rfl (by rfl) (fun K hK => ?_)
                      go_simp
                      refine (HNB.out X14 hB14).mono ?_
                      rintro e X15 ⟨rfl, hb15⟩
                      have hB15 := BT hB14 hb15
                      have h11_15 := h11_14.below hb15 (h11_14.lt2)
                      refine hK _ _ (hSG.out _ hB15) ?_
                      clear hK K hB14 h11_14 hb15
                      (try simp only [Act.put, List.setIfInBounds_toArray, List.set_cons_zero, List.set_cons_succ])
                      refine tr_step rfl (by rfl) (fun K hK => ?_)
                      go_simp
                      refine (HQY.out X15 hB15).mono ?_
                      rintro e X16 ⟨rfl, hb16⟩
                      have hB16 := BT hB15 hb16
                      have h11_16 := h11_15.below hb16 (h11_15.lt2)
                      refine hK _ _ (hSG.out _ hB16) ?_
                      clear hK K hB15 h11_15 hb16
                      (try simp only [Act.put, List.setIfInBounds_toArray, List.set_cons_zero, List.set_cons_succ])
                      repeat (first | (refine tr_read rfl (by rfl) _ (fun w' hS => by (try dsimp only at hS); go_simp; (try with_reducible rfl)) ?_; (try simp only [Act.put, List.setIfInBounds_toArray, List.set_cons_zero, List.set_cons_succ])) | (refine tr_skip rfl (by rfl) ?_; (try simp only [Act.put, List.setIfInBounds_toArray, List.set_cons_zero, List.set_cons_succ])))
                      refine tr_step rfl (by rfl) (fun K hK => ?_)
                      obtain ⟨u0_17, q0_17, f0_17⟩ := h11_16.get 0 (by omega)
                      obtain ⟨u1_17, q1_17, f1_17⟩ := h11_16.get 1 (by omega)
                      have hB17 := BC (BC hB16 g11 0 hg11 (.int .i64 (v1))) g11 1 hg11 (.int .i64 (v2))
                      have h11_17 := two_set h11_16 (v1) (v2)
                      go_simp
                      clear q0_17 f0_17 q1_17 f1_17
                      generalize (X16.setCell ⟨g11, 0, none⟩ (.int .i64 (v1))).setCell ⟨g11, 1, none⟩ (.int .i64 (v2)) = X17 at *
                      refine hK _ _ (hSG.out _ hB17) ?_
                      clear hK K hB16 h11_16
                      (try simp only [Act.put, List.setIfInBounds_toArray, List.set_cons_zero, List.set_cons_succ])
                      repeat (first | (refine tr_read rfl (by rfl) _ (fun w' hS => by (try dsimp only at hS); go_simp; (try with_reducible rfl)) ?_; (try simp only [Act.put, List.setIfInBounds_toArray, List.set_cons_zero, List.set_cons_succ])) | (refine tr_skip rfl (by rfl) ?_; (try simp only [Act.put, List.setIfInBounds_toArray, List.set_cons_zero, List.set_cons_succ])))
                      show Exit.then _ _ Exit.normal _ _
                      go_wp2_with fail
                      go_meet
                      exact ⟨g11, rfl, rfl, h11_17, hB17⟩
                  case rest =>
                    obtain ⟨g51, rfl, rfl, h51, hb48⟩ := hcut
                    obtain ⟨u3, rfl⟩ : ∃ u3 : World, u3 = wc := ⟨_, rfl⟩
                    have HT51 := Lib.hid h51
                    have HT49b := Lib.hid (HT49.out.grown hb48)
                    have HT47c := Lib.hid (HT47b.out.grown hb48)
                    have hV3 := BT hV2 hb48
                    clear h51 hb48 HT49 HT47b hV2 hSG HNA HNB HQY hB0
                    obtain ⟨c0, c1, c2, c3, c4, c5, c6, hh⟩ := (HAQ.out _ hV3).1
                    clear hh
                    go_wp2_with fail
                    refine (HQ4.out _ hV3).mono ?_
                    rintro e x1 ⟨rfl, hx1⟩
                    clear c0 c1 c2 c3 c4 c5 c6 HQ4
                    have hZ := BT hx1 (newB x1 (.cells #[.int .i64 p1, .int .i64 p2] 24))
                    have HT53 := Lib.hid (show Two x1.heap.size p1 p2 (x1.alloc (.cells #[.int .i64 p1, .int .i64 p2] 24)) from two_newT x1 _ _ 24)
                    go_upto_region 50 with fail
                    generalize x1.heap.size = g53 at HT53 ⊢
                    generalize x1.alloc (.cells #[.int .i64 p1, .int .i64 p2] 24) = u4 at hZ HT53 ⊢
                    have hV4 := BT hV3 hZ
                    have HT51b := Lib.hid (HT51.out.grown hZ)
                    have HT49c := Lib.hid (HT49b.out.grown hZ)
                    have HT47d := Lib.hid (HT47c.out.grown hZ)
                    clear hZ hx1 hV3 HT51 HT49b HT47c
                    have hSG : Hid (∀ X0, Below u4.heap.size u4 X0 → X0.cell? ⟨g12, 0, none⟩ = some (.slice Yh.a Yh.n Yh.cap) ∧ X0.cell? ⟨g12, 1, none⟩ = some (.int .i64 Yh.eLo) ∧ X0.cell? ⟨g12, 2, none⟩ = some (.int .i64 Yh.eHi) ∧ X0.cell? ⟨g12, 3, none⟩ = some (.int .i64 Yh.images) ∧ X0.cell? ⟨g12, 4, none⟩ = some (.int .i64 Yh.sLo) ∧ X0.cell? ⟨g12, 5, none⟩ = some (.int .i64 Yh.sHi) ∧ X0.cell? ⟨g12, 6, none⟩ = some (.slice Yh.sa Yh.ns Yh.scap)) := fun X0 hX => by
                      obtain ⟨i0, i1, i2, i3, i4, i5, i6, _⟩ := (HAQ.out X0 (BT hV4 hX)).2.2.1
                      exact ⟨i0, i1, i2, i3, i4, i5, i6⟩
                    have HNA : Hid (∀ Y, Below u4.heap.size u4 Y → Calls Try.prog 44 #[.int .i64 a, .pointer (some ⟨B + 1, 0, none⟩), .pointer (some ⟨B, 0, none⟩)] Y (Ret (.int .i64 na) Y)) := fun Y hY => HNA0.out Y (BT hV4 hY)
                    have HPY : Hid (∀ Y, Below u4.heap.size u4 Y → Calls Try.prog 20 #[.agg #[.slice Yh.a Yh.n Yh.cap, .int .i64 Yh.eLo, .int .i64 Yh.eHi, .int .i64 Yh.images, .int .i64 Yh.sLo, .int .i64 Yh.sHi, .slice Yh.sa Yh.ns Yh.scap], .int .i64 na] Y (Ret (.tuple #[.agg #[.int .i64 p1, .int .i64 p2], .int .i64 gp]) Y)) := fun Y hY => HQ5.out Y (BT hV4 hY)
                    have hB0 : Below u4.heap.size u4 u4.drew := Below.drew (Below.refl _ _)
                    clear HQ5 HNA0
                    go_cut [55, 56] from 339 to 346 (fun a55 a56 X => ∃ g55 : Nat, a55 = .pointer (some ⟨g55, 0, none⟩) ∧ a56 = .int .i64 gp ∧ Two g55 p1 p2 X ∧ Below u4.heap.size u4 X)
                    case first =>
                      refine wp_region_tree (.read 0 (.read 1 (.read 2 (.two 3 (.two 4 (.read 5 (.read 6 (.read 7 (.one 8 (.one 9 (.read 10 (.leaf))))))) 8 (.one 4 (.read 5 (.read 6 (.read 7 (.one 9 (.read 10 (.leaf)))))))) 8 (.one 3 (.one 4 (.read 5 (.read 6 (.read 7 (.one 9 (.read 10 (.leaf)))))))))))) (fun w' => w'.cell? ⟨g12, 0, none⟩ = some (.slice Yh.a Yh.n Yh.cap) ∧ w'.cell? ⟨g12, 1, none⟩ = some (.int .i64 Yh.eLo) ∧ w'.cell? ⟨g12, 2, none⟩ = some (.int .i64 Yh.eHi) ∧ w'.cell? ⟨g12, 3, none⟩ = some (.int .i64 Yh.images) ∧ w'.cell? ⟨g12, 4, none⟩ = some (.int .i64 Yh.sLo) ∧ w'.cell? ⟨g12, 5, none⟩ = some (.int .i64 Yh.sHi) ∧ w'.cell? ⟨g12, 6, none⟩ = some (.slice Yh.sa Yh.ns Yh.scap)) (by kernel_rfl) (by kernel_rfl) (fun _ _ d _ _ h => by cases d <;> exact h) (hSG.out _ hB0) ?_
                      generalize u4.drew = X0 at hB0 ⊢
                      repeat (first | (refine tr_read rfl (by rfl) _ (fun w' hS => by (try dsimp only at hS); go_simp; (try with_reducible rfl)) ?_; (try simp only [Act.put, List.setIfInBounds_toArray, List.set_cons_zero, List.set_cons_succ])) | (refine tr_skip rfl (by rfl) ?_; (try simp only [Act.put, List.setIfInBounds_toArray, List.set_cons_zero, List.set_cons_succ])))
                      refine ⟨?_, ?_⟩
                      · skip
                        refine tr_step rfl (by rfl) (fun K hK => ?_)
                        go_simp
                        refine (HNA.out X0 hB0).mono ?_
                        rintro e X1 ⟨rfl, hb1⟩
                        have hB1 := BT hB0 hb1
                        refine hK _ _ (hSG.out _ hB1) ?_
                        clear hK K hB0 hb1
                        (try simp only [Act.put, List.setIfInBounds_toArray, List.set_cons_zero, List.set_cons_succ])
                        refine ⟨?_, ?_⟩
                        · skip
                          refine tr_step rfl (by rfl) (fun K hK => ?_)
                          go_simp
                          refine (HPY.out X1 hB1).mono ?_
                          rintro e X2 ⟨rfl, hb2⟩
                          have hB2 := BT hB1 hb2
                          refine hK _ _ (hSG.out _ hB2) ?_
                          clear hK K hB1 hb2
                          (try simp only [Act.put, List.setIfInBounds_toArray, List.set_cons_zero, List.set_cons_succ])
                          repeat (first | (refine tr_read rfl (by rfl) _ (fun w' hS => by (try dsimp only at hS); go_simp; (try with_reducible rfl)) ?_; (try simp only [Act.put, List.setIfInBounds_toArray, List.set_cons_zero, List.set_cons_succ])) | (refine tr_skip rfl (by rfl) ?_; (try simp only [Act.put, List.setIfInBounds_toArray, List.set_cons_zero, List.set_cons_succ])))
                          refine tr_step rfl (by rfl) (fun K hK => ?_)
                          have hB3 := BA hB2 (.cells #[.int .i64 0, .int .i64 0] 24)
                          have h8_3 := slots_new2 X2 24
                          have hg8 := hB2.size
                          go_simp
                          generalize X2.heap.size = g8 at *
                          generalize X2.alloc (.cells #[.int .i64 0, .int .i64 0] 24) = X3 at *
                          refine hK _ _ (hSG.out _ hB3) ?_
                          clear hK K hB2 
                          (try simp only [Act.put, List.setIfInBounds_toArray, List.set_cons_zero, List.set_cons_succ])
                          refine tr_step rfl (by rfl) (fun K hK => ?_)
                          obtain ⟨u0_4, q0_4, f0_4⟩ := h8_3.get 0 (by omega)
                          obtain ⟨u1_4, q1_4, f1_4⟩ := h8_3.get 1 (by omega)
                          have hB4 := BC (BC hB3 g8 0 hg8 (.int .i64 (p1))) g8 1 hg8 (.int .i64 (p2))
                          have h8_4 := two_set h8_3 (p1) (p2)
                          go_simp
                          clear q0_4 f0_4 q1_4 f1_4
                          generalize (X3.setCell ⟨g8, 0, none⟩ (.int .i64 (p1))).setCell ⟨g8, 1, none⟩ (.int .i64 (p2)) = X4 at *
                          refine hK _ _ (hSG.out _ hB4) ?_
                          clear hK K hB3 h8_3
                          (try simp only [Act.put, List.setIfInBounds_toArray, List.set_cons_zero, List.set_cons_succ])
                          repeat (first | (refine tr_read rfl (by rfl) _ (fun w' hS => by (try dsimp only at hS); go_simp; (try with_reducible rfl)) ?_; (try simp only [Act.put, List.setIfInBounds_toArray, List.set_cons_zero, List.set_cons_succ])) | (refine tr_skip rfl (by rfl) ?_; (try simp only [Act.put, List.setIfInBounds_toArray, List.set_cons_zero, List.set_cons_succ])))
                          show Exit.then _ _ Exit.normal _ _
                          go_wp2_with fail
                          go_meet
                          exact ⟨g8, rfl, rfl, h8_4, hB4⟩
                        · skip
                          refine tr_step rfl (by rfl) (fun K hK => ?_)
                          have hB5 := BA hB1 (.cells #[.int .i64 0, .int .i64 0] 24)
                          have h8_5 := slots_new2 X1 24
                          have hg8 := hB1.size
                          go_simp
                          generalize X1.heap.size = g8 at *
                          generalize X1.alloc (.cells #[.int .i64 0, .int .i64 0] 24) = X5 at *
                          refine hK _ _ (hSG.out _ hB5) ?_
                          clear hK K hB1 
                          (try simp only [Act.put, List.setIfInBounds_toArray, List.set_cons_zero, List.set_cons_succ])
                          refine tr_step rfl (by rfl) (fun K hK => ?_)
                          go_simp
                          refine (HPY.out X5 hB5).mono ?_
                          rintro e X6 ⟨rfl, hb6⟩
                          have hB6 := BT hB5 hb6
                          have h8_6 := h8_5.below hb6 (h8_5.lt2)
                          refine hK _ _ (hSG.out _ hB6) ?_
                          clear hK K hB5 h8_5 hb6
                          (try simp only [Act.put, List.setIfInBounds_toArray, List.set_cons_zero, List.set_cons_succ])
                          repeat (first | (refine tr_read rfl (by rfl) _ (fun w' hS => by (try dsimp only at hS); go_simp; (try with_reducible rfl)) ?_; (try simp only [Act.put, List.setIfInBounds_toArray, List.set_cons_zero, List.set_cons_succ])) | (refine tr_skip rfl (by rfl) ?_; (try simp only [Act.put, List.setIfInBounds_toArray, List.set_cons_zero, List.set_cons_succ])))
                          refine tr_step rfl (by rfl) (fun K hK => ?_)
                          obtain ⟨u0_7, q0_7, f0_7⟩ := h8_6.get 0 (by omega)
                          obtain ⟨u1_7, q1_7, f1_7⟩ := h8_6.get 1 (by omega)
                          have hB7 := BC (BC hB6 g8 0 hg8 (.int .i64 (p1))) g8 1 hg8 (.int .i64 (p2))
                          have h8_7 := two_set h8_6 (p1) (p2)
                          go_simp
                          clear q0_7 f0_7 q1_7 f1_7
                          generalize (X6.setCell ⟨g8, 0, none⟩ (.int .i64 (p1))).setCell ⟨g8, 1, none⟩ (.int .i64 (p2)) = X7 at *
                          refine hK _ _ (hSG.out _ hB7) ?_
                          clear hK K hB6 h8_6
                          (try simp only [Act.put, List.setIfInBounds_toArray, List.set_cons_zero, List.set_cons_succ])
                          repeat (first | (refine tr_read rfl (by rfl) _ (fun w' hS => by (try dsimp only at hS); go_simp; (try with_reducible rfl)) ?_; (try simp only [Act.put, List.setIfInBounds_toArray, List.set_cons_zero, List.set_cons_succ])) | (refine tr_skip rfl (by rfl) ?_; (try simp only [Act.put, List.setIfInBounds_toArray, List.set_cons_zero, List.set_cons_succ])))
                          show Exit.then _ _ Exit.normal _ _
                          go_wp2_with fail
                          go_meet
                          exact ⟨g8, rfl, rfl, h8_7, hB7⟩
                      · skip
                        refine tr_step rfl (by rfl) (fun K hK => ?_)
                        have hB8 := BA hB0 (.cells #[.int .i64 0, .int .i64 0] 24)
                        have h8_8 := slots_new2 X0 24
                        have hg8 := hB0.size
                        go_simp
                        generalize X0.heap.size = g8 at *
                        generalize X0.alloc (.cells #[.int .i64 0, .int .i64 0] 24) = X8 at *
                        refine hK _ _ (hSG.out _ hB8) ?_
                        clear hK K hB0 
                        (try simp only [Act.put, List.setIfInBounds_toArray, List.set_cons_zero, List.set_cons_succ])
                        refine tr_step rfl (by rfl) (fun K hK => ?_)
                        go_simp
                        refine (HNA.out X8 hB8).mono ?_
                        rintro e X9 ⟨rfl, hb9⟩
                        have hB9 := BT hB8 hb9
                        have h8_9 := h8_8.below hb9 (h8_8.lt2)
                        refine hK _ _ (hSG.out _ hB9) ?_
                        clear hK K hB8 h8_8 hb9
                        (try simp only [Act.put, List.setIfInBounds_toArray, List.set_cons_zero, List.set_cons_succ])
                        refine tr_step rfl (by rfl) (fun K hK => ?_)
                        go_simp
                        refine (HPY.out X9 hB9).mono ?_
                        rintro e X10 ⟨rfl, hb10⟩
                        have hB10 := BT hB9 hb10
                        have h8_10 := h8_9.below hb10 (h8_9.lt2)
                        refine hK _ _ (hSG.out _ hB10) ?_
                        clear hK K hB9 h8_9 hb10
                        (try simp only [Act.put, List.setIfInBounds_toArray, List.set_cons_zero, List.set_cons_succ])
                        repeat (first | (refine tr_read rfl (by rfl) _ (fun w' hS => by (try dsimp only at hS); go_simp; (try with_reducible rfl)) ?_; (try simp only [Act.put, List.setIfInBounds_toArray, List.set_cons_zero, List.set_cons_succ])) | (refine tr_skip rfl (by rfl) ?_; (try simp only [Act.put, List.setIfInBounds_toArray, List.set_cons_zero, List.set_cons_succ])))
                        refine tr_step rfl (by rfl) (fun K hK => ?_)
                        obtain ⟨u0_11, q0_11, f0_11⟩ := h8_10.get 0 (by omega)
                        obtain ⟨u1_11, q1_11, f1_11⟩ := h8_10.get 1 (by omega)
                        have hB11 := BC (BC hB10 g8 0 hg8 (.int .i64 (p1))) g8 1 hg8 (.int .i64 (p2))
                        have h8_11 := two_set h8_10 (p1) (p2)
                        go_simp
                        clear q0_11 f0_11 q1_11 f1_11
                        generalize (X10.setCell ⟨g8, 0, none⟩ (.int .i64 (p1))).setCell ⟨g8, 1, none⟩ (.int .i64 (p2)) = X11 at *
                        refine hK _ _ (hSG.out _ hB11) ?_
                        clear hK K hB10 h8_10
                        (try simp only [Act.put, List.setIfInBounds_toArray, List.set_cons_zero, List.set_cons_succ])
                        repeat (first | (refine tr_read rfl (by rfl) _ (fun w' hS => by (try dsimp only at hS); go_simp; (try with_reducible rfl)) ?_; (try simp only [Act.put, List.setIfInBounds_toArray, List.set_cons_zero, List.set_cons_succ])) | (refine tr_skip rfl (by rfl) ?_; (try simp only [Act.put, List.setIfInBounds_toArray, List.set_cons_zero, List.set_cons_succ])))
                        show Exit.then _ _ Exit.normal _ _
                        go_wp2_with fail
                        go_meet
                        exact ⟨g8, rfl, rfl, h8_11, hB11⟩
                    case rest =>
                      obtain ⟨g55, rfl, rfl, h55, hb50⟩ := hcut
                      obtain ⟨u5, rfl⟩ : ∃ u5 : World, u5 = wc := ⟨_, rfl⟩
                      obtain ⟨y0, y1⟩ := HT47d.out.grown hb50
                      obtain ⟨y2, y3⟩ := HT49c.out.grown hb50
                      obtain ⟨y4, y5⟩ := HT51b.out.grown hb50
                      obtain ⟨y6, y7⟩ := HT53.out.grown hb50
                      obtain ⟨y8, y9⟩ := h55
                      have hV5 := BT HWA.out (BT hV4 hb50)
                      clear HT47d HT49c HT51b HT53 hb50 hV4 hSG HNA HPY hB0 HAQ HWA
                      go_wp2_with fail
                      refine (alive_any _).mono ?_
                      rintro e ze ⟨rfl, hze⟩
                      go_wp2
                      go_ret
                      exact ⟨rfl, BT hV5 hze⟩

end Go.Proofs.Ytmfbkgdlfackcaa

namespace Go.Proofs.Ytmfbkgdlfackcaa.ScrewTurnedRow
open Go.ChangeShapes Go.WideShapes Go.ChangeAt Go.RowKit

theorem own : ownKnob Try.prog.godebug = none := by kernel_rfl

set_option maxRecDepth 100000 in
theorem lifted (os : Os) (started : os.Started) (H : Type) (enc : TypeId × Value → H) :
    ReturnsInHanded {} Try.checked os 12 .any (Rows.screwTurnedSpec.pre6 enc Try.prog Try.f12 Rows.screwTurnedRow.domain false) (Rows.screwTurnedSpec.post enc Try.prog Try.f12 false true false false) := by
  refine returnsInHanded_of_change (C := Try.checked) own started (by kernel_rfl) Try.func12
    (ChangeSpec.witness6 (enc := enc) (C := Try.checked) false ⟨#[], #[.agg #[.slice none 0 0, .int .i64 0, .int .i64 0, .int .i64 0, .int .i64 0, .int .i64 0, .slice none 0 0], .int .i64 0, .int .i64 0, .int .u8 0], []⟩ 8 (by kernel_rfl) (by kernel_rfl) (by kernel_rfl) (by kernel_rfl)) ?_
  intro W base args ds gs before hval0 hW hcnd _
  have hval : ∀ (j : Nat) t v, Try.f12.params[j]? = some t → args[j]? = some v → Value.okWide Try.prog W .any base t v := hval0
  have hW' := hW
  obtain ⟨p, q, hA0, hV, rfl, hfz, hnd⟩ := hW
  have hA : DataW.TrodAll enc Try.prog W 0 (fun _ => true) true Try.f12.params.toList args.toList ds p := hA0
  rw [Try.params12] at hA hval
  obtain ⟨v0, vs0, d0, ds0, p0, q0, hargs, rfl, rfl, h0, r0⟩ := trodAll_cons hA
  obtain ⟨v1, vs1, d1, ds1, p1, q1, rfl, rfl, rfl, h1, r1⟩ := trodAll_cons r0
  obtain ⟨v2, vs2, d2, ds2, p2, q2, rfl, rfl, rfl, h2, r2⟩ := trodAll_cons r1
  obtain ⟨v3, vs3, d3, ds3, p3, q3, rfl, rfl, rfl, h3, r3⟩ := trodAll_cons r2
  obtain ⟨rfl, rfl, rfl⟩ := trodAll_nil r3
  obtain rfl : args = #[v0, v1, v2, v3] := Array.toList_inj.1 (by simpa using hargs)
  obtain ⟨hd, xs, ss, rfl, hm⟩ := open_measure (hval 0 29 v0 rfl rfl) h0
  obtain ⟨y1, rfl, rfl, rfl, w1⟩ := open_int Try.underlying3 (hval 1 3 v1 rfl rfl) h1
  obtain ⟨y2, rfl, rfl, rfl, w2⟩ := open_int Try.underlying3 (hval 2 3 v2 rfl rfl) h2
  obtain ⟨y3, rfl, rfl, rfl, w3⟩ := open_int Try.underlying5 (hval 3 5 v3 rfl rfl) h3
  obtain ⟨rfl, rfl⟩ := trodVars_none hV
  have hy1 := rng_of w1
  have hy2 := rng_of w2
  have hy3 : 0 ≤ y3 ∧ y3 ≤ 255 := by
    have e1 : IntKind.u8.min = 0 := by decide
    have e2 : IntKind.u8.max = 255 := by decide
    simp only [Lit.wf, e1, e2, Bool.and_eq_true, decide_eq_true_eq] at w3
    exact w3
  refine (turnL_any hd xs ss y1 y2 y3 W hm hy3).mono fun e W' ⟨he, hb⟩ => ?_
  subst he
  refine ⟨_, rfl, law_last rfl (by decide +kernel) (fun _ _ _ => trodAll_cons_mk (shut_bool Try.underlying4 _) trodAll_mk0) (ok_one (by kernel_rfl) rfl (okWide_bool_mk Try.underlying4 _)) hW' rfl rfl rfl hb⟩

theorem over : Rows.screwTurnedRow.holds Try.pinned (OpenSpec.ofChange Rows.screwTurnedSpec) :=
  OpenClaim.holds_of_wide 12 Try.f12 rfl rfl rfl rfl rfl rfl rfl ⟨rfl, rfl, rfl, rfl, rfl⟩ rfl rfl rfl rfl rfl (by kernel_rfl) Try.func12 (by kernel_rfl)
    (of_decide_eq_true (by kernel_rfl)) (by unfold Func.isWrapper; first | (rw [if_pos (by decide +kernel)]; kernel_rfl) | (rw [if_neg (by decide +kernel)]; exact ⟨rfl, rfl⟩))
    (fun os started H enc _ => lifted os started H enc)

theorem screwTurned_holds : Rows.ScrewTurnedSaid := over
#print axioms screwTurned_holds
end Go.Proofs.Ytmfbkgdlfackcaa.ScrewTurnedRow
