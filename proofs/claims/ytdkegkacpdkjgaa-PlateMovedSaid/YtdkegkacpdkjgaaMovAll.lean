/- 'PlateMoved': in whatever memory, for all plates and numbers, on every order of evaluation that Go leaves open: the call returns true. No condition. -/
import Derived.Test.YtdkegkacpdkjgaaTr
import Derived.Test.YtdkegkacpdkjgaaPcl
import Derived.Test.YtdkegkacpdkjgaaPbt
import Derived.Test.YtdkegkacpdkjgaaPrk
import Derived.Test.YtdkegkacpdkjgaaPfw
import Derived.Test.YtdkegkacpdkjgaaPpp
import Derived.Test.YtdkegkacpdkjgaaPpa
import Derived.Test.YtdkegkacpdkjgaaPsr
import Derived.Test.YtdkegkacpdkjgaaPar
namespace Go.Proofs.Ytdkegkacpdkjgaa
section
variable {P : Program} {ops : Array Oper} {l : List Oper} {Q : Exit → Act → World → Prop} {md : Region.Mode} {S : World → Prop} {F : List Nat}

/-- It waits for all of them. -/
def finalF (md : Region.Mode) (ops : Array Oper) (F : List Nat) (j : Nat) : Bool := F.all fun k => k == j || (depsN md ops 2 (deps md ops j)).contains k
def wpAnyRF (P : Program) (md : Region.Mode) (ops : Array Oper) (F : List Nat) (Q : Exit → Act → World → Prop) (S : World → Prop) : Nat → Array Bool → Act → World → Prop
  | 0, listed, a, w => Region.ready md ops listed = [] ∧ Q .normal a w
  | fuel + 1, listed, a, w =>
    (Region.ready md ops listed = [] → Q .normal a w) ∧
    ∀ i ∈ Region.ready md ops listed, wpOp P ops Q i (fun a' w' => (finalF md ops F i = false → S w → S w') ∧ wpAnyRF P md ops F Q S fuel (listed.setIfInBounds i true) a' w') a w
theorem wpAny_of_RF : ∀ (fuel : Nat) (listed : Array Bool) (a : Act) (w : World), wpAnyRF P md ops F Q S fuel listed a w → wpAny P md ops Q fuel listed a w
  | 0, _, _, _, h => h
  | fuel + 1, _, _, _, h => ⟨h.1, fun i hi => wpOp_mono (fun a' w' h' => wpAny_of_RF fuel _ a' w' h'.2) (h.2 i hi)⟩
theorem not_finalF {listed : Array Bool} {i j : Nat} (hc : Closed md ops listed) (hi : i ∈ Region.ready md ops listed) (hj : j ∈ Region.ready md ops listed) (hne : j ≠ i) (hF : i ∈ F) : finalF md ops F j = false := by
  obtain ⟨hi0, oi, hoi, _⟩ := mem_ready.1 hi
  cases hf : finalF md ops F j
  · rfl
  · exfalso
    unfold finalF at hf
    rw [List.all_eq_true] at hf
    have h1 := hf i hF
    simp only [Bool.or_eq_true, beq_iff_eq, List.contains_iff_mem] at h1
    rcases h1 with h1 | h1
    · exact hne h1.symm
    · have h2 := closed_depsN hc 2 _ (deps_ready hj) i h1
      rcases Nat.lt_or_ge i listed.size with h' | h'
      · simp [h'] at hi0 h2; rw [hi0] at h2; cases h2
      · simp [Array.getElem?_eq_none h'] at h2
theorem wpAnyR_firstF {i : Nat} {oi : Oper} {v : Value} (hF : i ∈ F) (hi : ops[i]? = some oi) (hsel : ∀ (j : Nat) (o : Oper) cs b, ops[j]? = some o → o.op ≠ .select cs b)
    (hQ : ∀ c a w, Q (.panic c) (a.put oi.dst v) w → Q (.panic c) a w) :
    ∀ (fuel : Nat) (listed : Array Bool) (a : Act) (w : World), Closed md ops listed →
      (∀ j oj, ops[j]? = some oj → j ≠ i → listed.getD j true = false → (∀ e ∈ oj.after, Region.binds md e = true → e.on ≠ i) → oi.apart ops oj = true) →
      i ∈ Region.ready md ops listed → YieldsIf P ops S oi v a → S w →
      wpAnyRF P md ops F Q S fuel (listed.setIfInBounds i true) (a.put oi.dst v) w → wpAnyRF P md ops F Q S (fuel + 1) listed a w := by
  intro fuel
  induction fuel with
  | zero =>
    intro listed a w _ _ hr hy hS H
    refine ⟨fun h => absurd hr (by rw [h]; simp), fun j hj => ?_⟩
    by_cases hji : j = i
    · subst hji; exact hy.wpOp hi hS ⟨fun _ h => h, H⟩
    · have hj' := ready_mono hj hji
      rw [H.1] at hj'; cases hj'
  | succ fuel ih =>
    intro listed a w hcl hfree hr hy hS H
    refine ⟨fun h => absurd hr (by rw [h]; simp), fun j hj => ?_⟩
    by_cases hji : j = i
    · subst hji; exact hy.wpOp hi hS ⟨fun _ h => h, H⟩
    · have hnf := not_finalF hcl hr hj hji hF
      obtain ⟨hjun, oj, hoj, hall⟩ := mem_ready.1 hj
      have hnot : ∀ e ∈ oj.after, Region.binds md e = true → e.on ≠ i := fun e he hb heq => by
        have h2 := hall e he hb
        have h0 := (mem_ready.1 hr).1
        rw [heq] at h2
        rcases Nat.lt_or_ge i listed.size with h' | h'
        · simp [h'] at h0 h2; rw [h0] at h2; cases h2
        · simp [Array.getElem?_eq_none h'] at h2
      have hstep := wpOp_putIf hoj (hfree j oj hoj hji hjun hnot) (fun cs b => hsel i oi cs b hi) (fun cs b => hsel j oj cs b hoj) hQ hy (H.2 j (ready_mono hj hji))
      have hfree2 : ∀ k ok, ops[k]? = some ok → k ≠ i → (listed.setIfInBounds j true).getD k true = false →
          (∀ e ∈ ok.after, Region.binds md e = true → e.on ≠ i) → oi.apart ops ok = true := fun k ok hk hki hun hno => by
        refine hfree k ok hk hki ?_ hno
        by_cases hjk : j = k
        · subst hjk; exact hjun
        · rw [getD_set_ne true hjk] at hun; exact hun
      refine wpOp_mono (fun a' w' h3 => ?_) hstep
      obtain ⟨hy3, hS3, h3⟩ := h3
      rw [Array.setIfInBounds_comm _ _ (Ne.symm hji)] at h3
      exact ⟨hS3, ih (listed.setIfInBounds j true) a' w' (closed_set hcl hj) hfree2 (ready_mono hr (Ne.symm hji)) hy3 (hS3 hnf hS) h3⟩


theorem wpAnyR_firstG {i : Nat} {oi : Oper} {v : Value} (hi : ops[i]? = some oi) (hsel : ∀ (j : Nat) (o : Oper) cs b, ops[j]? = some o → o.op ≠ .select cs b)
    (hQ : ∀ c a w, Q (.panic c) (a.put oi.dst v) w → Q (.panic c) a w) :
    ∀ (fuel : Nat) (listed : Array Bool) (a : Act) (w : World), Closed md ops listed →
      (∀ j oj, ops[j]? = some oj → j ≠ i → listed.getD j true = false → (∀ e ∈ oj.after, Region.binds md e = true → e.on ≠ i) → oi.apart ops oj = true) →
      i ∈ Region.ready md ops listed → YieldsIf P ops (fun _ => True) oi v a →
      wpAnyRF P md ops F Q S fuel (listed.setIfInBounds i true) (a.put oi.dst v) w → wpAnyRF P md ops F Q S (fuel + 1) listed a w := by
  intro fuel
  induction fuel with
  | zero =>
    intro listed a w _ _ hr hy H
    refine ⟨fun h => absurd hr (by rw [h]; simp), fun j hj => ?_⟩
    by_cases hji : j = i
    · subst hji; exact hy.wpOp hi trivial ⟨fun _ h => h, H⟩
    · have hj' := ready_mono hj hji
      rw [H.1] at hj'; cases hj'
  | succ fuel ih =>
    intro listed a w hcl hfree hr hy H
    refine ⟨fun h => absurd hr (by rw [h]; simp), fun j hj => ?_⟩
    by_cases hji : j = i
    · subst hji; exact hy.wpOp hi trivial ⟨fun _ h => h, H⟩
    · obtain ⟨hjun, oj, hoj, hall⟩ := mem_ready.1 hj
      have hnot : ∀ e ∈ oj.after, Region.binds md e = true → e.on ≠ i := fun e he hb heq => by
        have h2 := hall e he hb
        have h0 := (mem_ready.1 hr).1
        rw [heq] at h2
        rcases Nat.lt_or_ge i listed.size with h' | h'
        · simp [h'] at h0 h2; rw [h0] at h2; cases h2
        · simp [Array.getElem?_eq_none h'] at h2
      have hstep := wpOp_putIf hoj (hfree j oj hoj hji hjun hnot) (fun cs b => hsel i oi cs b hi) (fun cs b => hsel j oj cs b hoj) hQ hy (H.2 j (ready_mono hj hji))
      have hfree2 : ∀ k ok, ops[k]? = some ok → k ≠ i → (listed.setIfInBounds j true).getD k true = false →
          (∀ e ∈ ok.after, Region.binds md e = true → e.on ≠ i) → oi.apart ops ok = true := fun k ok hk hki hun hno => by
        refine hfree k ok hk hki ?_ hno
        by_cases hjk : j = k
        · subst hjk; exact hjun
        · rw [getD_set_ne true hjk] at hun; exact hun
      refine wpOp_mono (fun a' w' h3 => ?_) hstep
      obtain ⟨hy3, hS3, h3⟩ := h3
      rw [Array.setIfInBounds_comm _ _ (Ne.symm hji)] at h3
      exact ⟨hS3, ih (listed.setIfInBounds j true) a' w' (closed_set hcl hj) hfree2 (ready_mono hr (Ne.symm hji)) hy3 h3⟩


def lateTr (md : Region.Mode) (ops : Array Oper) (F : List Nat) : Tr → Bool
  | .leaf => true
  | .one i t => finalF md ops F i && lateTr md ops F t
  | .read i t => !F.contains i && lateTr md ops F t
  | _ => false
def okTrF (md : Region.Mode) (ops : Array Oper) (F : List Nat) : Tr → Array Bool → Bool
  | .leaf, d => (Region.ready md ops d).isEmpty
  | .read i t, d => (Region.ready md ops d).contains i && Region.free md ops d i && okTrF md ops F t (d.setIfInBounds i true)
  | .one i t, d => decide (Region.ready md ops d = [i]) && (!finalF md ops F i || lateTr md ops F t) && okTrF md ops F t (d.setIfInBounds i true)
  | .two i t j u, d => decide (Region.ready md ops d = [i, j]) && !finalF md ops F i && !finalF md ops F j && okTrF md ops F t (d.setIfInBounds i true) && okTrF md ops F u (d.setIfInBounds j true)
  | .three i t j u k v, d => decide (Region.ready md ops d = [i, j, k]) && !finalF md ops F i && !finalF md ops F j && !finalF md ops F k && okTrF md ops F t (d.setIfInBounds i true) && okTrF md ops F u (d.setIfInBounds j true) && okTrF md ops F v (d.setIfInBounds k true)
def stepTrF (P : Program) (md : Region.Mode) (l : List Oper) (F : List Nat) (Q : Exit → Act → World → Prop) (S : World → Prop) (i : Nat) (K : Act → World → Prop) (a : Act) (w : World) : Prop :=
  match l[i]? with
  | none => False
  | some o => (Region.wanted o (yielded l.toArray a.tmps) = false ∧ K (a.put o.dst undef) w) ∨
      (Region.wanted o (yielded l.toArray a.tmps) = true ∧ o.wp P a w (fun a' w' => (finalF md l.toArray F i = false → S w') ∧ ((finalF md l.toArray F i = false → S w') → K a' w')) Q)
def wpTrF (P : Program) (md : Region.Mode) (l : List Oper) (F : List Nat) (Q : Exit → Act → World → Prop) (S : World → Prop) : Tr → Act → World → Prop
  | .leaf, a, w => Q .normal a w
  | .read i t, a, w => match l[i]? with
    | none => False
    | some o => (Region.wanted o (yielded l.toArray a.tmps) = false ∧ wpTrF P md l F Q S t (a.put o.dst undef) w) ∨
        (Region.wanted o (yielded l.toArray a.tmps) = true ∧ ∃ v, (∀ w', (F.contains i = true → S w') → (execOp a.eval o).run P w' = .ok (.value v) w') ∧ wpTrF P md l F Q S t (a.put o.dst v) w)
  | .one i t, a, w => stepTrF P md l F Q S i (wpTrF P md l F Q S t) a w
  | .two i t j u, a, w => stepTrF P md l F Q S i (wpTrF P md l F Q S t) a w ∧ stepTrF P md l F Q S j (wpTrF P md l F Q S u) a w
  | .three i t j u k v, a, w => stepTrF P md l F Q S i (wpTrF P md l F Q S t) a w ∧ stepTrF P md l F Q S j (wpTrF P md l F Q S u) a w ∧ stepTrF P md l F Q S k (wpTrF P md l F Q S v) a w

theorem step_soundF {i fuel : Nat} {K : Act → World → Prop} {listed : Array Bool} {a : Act} {w : World} (hS : finalF md l.toArray F i = false → S w) (h : stepTrF P md l F Q S i K a w)
    (hK : ∀ a' w', (finalF md l.toArray F i = false → S w') → K a' w' → wpAnyRF P md l.toArray F Q S fuel (listed.setIfInBounds i true) a' w') :
    wpOp P l.toArray Q i (fun a' w' => (finalF md l.toArray F i = false → S w → S w') ∧ wpAnyRF P md l.toArray F Q S fuel (listed.setIfInBounds i true) a' w') a w := by
  unfold stepTrF at h
  cases ho : l[i]? with
  | none => rw [ho] at h; exact h.elim
  | some o =>
    rw [ho] at h
    have ho' : l.toArray[i]? = some o := by simpa using ho
    unfold Go.wpOp
    rw [ho']
    rcases h with ⟨hw, h⟩ | ⟨hw, h⟩
    · simp only [hw, Bool.false_eq_true, if_false]
      exact ⟨fun h _ => hS h, hK _ _ hS h⟩
    · simp only [hw, if_true]
      exact Or.inl (Oper.wp_mono (fun a' w' h' => ⟨fun h _ => h'.1 h, hK a' w' h'.1 (h'.2 h'.1)⟩) h)

theorem wpTr_soundF (hs : Region.noSelect l.toArray = true) (hQ : ∀ c a d v w, Q (.panic c) (Act.put a d v) w → Q (.panic c) a w) :
    ∀ (t : Tr) (fuel : Nat) (listed : Array Bool) (a : Act) (w : World), t.depth ≤ fuel → Closed md l.toArray listed → okTrF md l.toArray F t listed = true → (lateTr md l.toArray F t = false → S w) → wpTrF P md l F Q S t a w → wpAnyRF P md l.toArray F Q S fuel listed a w := by
  intro t
  induction t with
  | leaf =>
    intro fuel listed a w _ _ hok _ h
    have hr : Region.ready md l.toArray listed = [] := by simpa [okTrF] using hok
    cases fuel with
    | zero => exact ⟨hr, h⟩
    | succ fuel => exact ⟨fun _ => h, by rw [hr]; simp⟩
  | read i t ih =>
    intro fuel listed a w hf hcl hok hS0 h
    have hSt : lateTr md l.toArray F t = false → S w := fun h => hS0 (by rw [lateTr, h, Bool.and_false])
    cases fuel with
    | zero => simp [Tr.depth] at hf
    | succ fuel =>
      have hf' : t.depth ≤ fuel := by simp [Tr.depth] at hf; omega
      simp only [okTrF, Bool.and_eq_true] at hok
      obtain ⟨⟨hc, hfr⟩, hok⟩ := hok
      have hr : i ∈ Region.ready md l.toArray listed := by simpa using hc
      simp only [wpTrF] at h
      cases ho : l[i]? with
      | none => rw [ho] at h; exact h.elim
      | some o =>
        rw [ho] at h
        have ho' : l.toArray[i]? = some o := by simpa using ho
        cases hFi : F.contains i with
        | true =>
          have hF : i ∈ F := by simpa using hFi
          have hS : S w := hS0 (by rw [lateTr, hFi]; rfl)
          rcases h with ⟨hw, h⟩ | ⟨hw, v, hv, h⟩
          · exact wpAnyR_firstF hF ho' (Region.noSelect_spec hs) (fun c a w => hQ c a _ _ w) fuel listed a w hcl (Region.free_spec ho' hfr) hr (Or.inr ⟨hw, rfl⟩) hS (ih fuel _ _ _ hf' (closed_set hcl hr) hok hSt h)
          · exact wpAnyR_firstF hF ho' (Region.noSelect_spec hs) (fun c a w => hQ c a _ _ w) fuel listed a w hcl (Region.free_spec ho' hfr) hr (Or.inl ⟨hw, fun w' hw' => hv w' (fun _ => hw')⟩) hS (ih fuel _ _ _ hf' (closed_set hcl hr) hok hSt h)
        | false =>
          rcases h with ⟨hw, h⟩ | ⟨hw, v, hv, h⟩
          · exact wpAnyR_firstG ho' (Region.noSelect_spec hs) (fun c a w => hQ c a _ _ w) fuel listed a w hcl (Region.free_spec ho' hfr) hr (Or.inr ⟨hw, rfl⟩) (ih fuel _ _ _ hf' (closed_set hcl hr) hok hSt h)
          · exact wpAnyR_firstG ho' (Region.noSelect_spec hs) (fun c a w => hQ c a _ _ w) fuel listed a w hcl (Region.free_spec ho' hfr) hr (Or.inl ⟨hw, fun w' _ => hv w' (fun h => by rw [hFi] at h; cases h)⟩) (ih fuel _ _ _ hf' (closed_set hcl hr) hok hSt h)
  | one i t ih =>
    intro fuel listed a w hf hcl hok hS0 h
    cases fuel with
    | zero => simp [Tr.depth] at hf
    | succ fuel =>
      have hf' : t.depth ≤ fuel := by simp [Tr.depth] at hf; omega
      simp only [okTrF, Bool.and_eq_true, decide_eq_true_eq, Bool.or_eq_true, Bool.not_eq_true'] at hok
      obtain ⟨⟨hr, hfin⟩, hok⟩ := hok
      refine ⟨fun h0 => absurd h0 (by rw [hr]; simp), fun j hj => ?_⟩
      rw [hr] at hj
      obtain rfl : j = i := by simpa using hj
      refine step_soundF (fun hi => hS0 (by simp [lateTr, hi])) h (fun a' w' hS' h' => ih fuel _ _ _ hf' (closed_set hcl (by rw [hr]; simp)) hok (fun hl => ?_) h')
      rcases hfin with hfin | hfin
      · exact hS' hfin
      · rw [hfin] at hl; cases hl
  | two i t j u iht ihu =>
    intro fuel listed a w hf hcl hok hS0 h
    have hS := hS0 rfl
    cases fuel with
    | zero => simp [Tr.depth] at hf
    | succ fuel =>
      have hf' : t.depth ≤ fuel ∧ u.depth ≤ fuel := by simp [Tr.depth] at hf; omega
      simp only [okTrF, Bool.and_eq_true, decide_eq_true_eq, Bool.not_eq_true'] at hok
      obtain ⟨⟨⟨⟨hr, hi⟩, hj⟩, hok1⟩, hok2⟩ := hok
      obtain ⟨h1, h2⟩ := h
      refine ⟨fun h0 => absurd h0 (by rw [hr]; simp), fun k hk => ?_⟩
      rw [hr] at hk
      simp only [List.mem_cons, List.not_mem_nil, or_false] at hk
      rcases hk with rfl | rfl
      · exact step_soundF (fun _ => hS) h1 (fun a' w' hS' h' => iht fuel _ _ _ hf'.1 (closed_set hcl (by rw [hr]; simp)) hok1 (fun _ => hS' hi) h')
      · exact step_soundF (fun _ => hS) h2 (fun a' w' hS' h' => ihu fuel _ _ _ hf'.2 (closed_set hcl (by rw [hr]; simp)) hok2 (fun _ => hS' hj) h')
  | three i t j u k v iht ihu ihv =>
    intro fuel listed a w hf hcl hok hS0 h
    have hS := hS0 rfl
    cases fuel with
    | zero => simp [Tr.depth] at hf
    | succ fuel =>
      have hf' : t.depth ≤ fuel ∧ u.depth ≤ fuel ∧ v.depth ≤ fuel := by simp [Tr.depth] at hf; omega
      simp only [okTrF, Bool.and_eq_true, decide_eq_true_eq, Bool.not_eq_true'] at hok
      obtain ⟨⟨⟨⟨⟨⟨hr, hi⟩, hj⟩, hk'⟩, hok1⟩, hok2⟩, hok3⟩ := hok
      obtain ⟨h1, h2, h3⟩ := h
      refine ⟨fun h0 => absurd h0 (by rw [hr]; simp), fun m hm => ?_⟩
      rw [hr] at hm
      simp only [List.mem_cons, List.not_mem_nil, or_false] at hm
      rcases hm with rfl | rfl | rfl
      · exact step_soundF (fun _ => hS) h1 (fun a' w' hS' h' => iht fuel _ _ _ hf'.1 (closed_set hcl (by rw [hr]; simp)) hok1 (fun _ => hS' hi) h')
      · exact step_soundF (fun _ => hS) h2 (fun a' w' hS' h' => ihu fuel _ _ _ hf'.2.1 (closed_set hcl (by rw [hr]; simp)) hok2 (fun _ => hS' hj) h')
      · exact step_soundF (fun _ => hS) h3 (fun a' w' hS' h' => ihv fuel _ _ _ hf'.2.2 (closed_set hcl (by rw [hr]; simp)) hok3 (fun _ => hS' hk') h')


def treeOkF (ops : Array Oper) (F : List Nat) (t : Tr) : Bool := Region.noSelect ops && decide (t.depth ≤ ops.size) && okTrF .any ops F t (Array.replicate ops.size false)
/-- The beginning: the tree, checked by the kernel; S of the world at hand. -/
theorem wp_region_treeF {id : Nat} {a : Act} {w : World} (F : List Nat) (t : Tr) (S : World → Prop) (hm : P.follows .mixedOrders = true) (hok : treeOkF l.toArray F t = true)
    (hQ : ∀ c a d v w, Q (.panic c) (Act.put a d v) w → Q (.panic c) a w) (hS : S w.drew) (h : wpTrF P .any l F Q S t a w.drew) : (Code.region id l.toArray true).wp P Q a w := by
  unfold treeOkF at hok
  simp only [Bool.and_eq_true, decide_eq_true_eq] at hok
  obtain ⟨⟨h1, h2⟩, h3⟩ := hok
  exact wp_region_any hm (wpAny_of_RF (S := S) _ _ _ _ (wpTr_soundF h1 hQ t _ _ _ _ h2 (closed_none _) h3 (fun _ => hS) h))
theorem trF_skip {i : Nat} {t : Tr} {o : Oper} {a : Act} {w : World} (ho : l[i]? = some o) (hw : Region.wanted o (yielded l.toArray a.tmps) = false)
    (h : wpTrF P md l F Q S t (a.put o.dst undef) w) : wpTrF P md l F Q S (.read i t) a w := by
  simp only [wpTrF, ho]; exact .inl ⟨hw, h⟩
theorem trF_read {i : Nat} {t : Tr} {o : Oper} {a : Act} {w : World} (ho : l[i]? = some o) (hw : Region.wanted o (yielded l.toArray a.tmps) = true) (v : Value)
    (hv : ∀ w', (F.contains i = true → S w') → (execOp a.eval o).run P w' = .ok (.value v) w') (h : wpTrF P md l F Q S t (a.put o.dst v) w) : wpTrF P md l F Q S (.read i t) a w := by
  simp only [wpTrF, ho]; exact .inr ⟨hw, v, hv, h⟩
theorem trF_step {i : Nat} {T : Act → World → Prop} {o : Oper} {a : Act} {w : World} (ho : l[i]? = some o) (hw : Region.wanted o (yielded l.toArray a.tmps) = true)
    (h : ∀ K : Act → World → Prop, (∀ a w, S w → T a w → K a w) → o.wp P a w K Q) : stepTrF P md l F Q S i T a w := by
  simp only [stepTrF, ho]; exact .inr ⟨hw, by simpa using h _ (fun a w hS h => ⟨fun _ => hS, fun _ => h⟩)⟩
/-- One that waits for all reads that are listed. -/
theorem trF_late {i : Nat} {T : Act → World → Prop} {o : Oper} {a : Act} {w : World} (ho : l[i]? = some o) (hw : Region.wanted o (yielded l.toArray a.tmps) = true) (hf : finalF md l.toArray F i = true)
    (h : ∀ K : Act → World → Prop, (∀ a w, T a w → K a w) → o.wp P a w K Q) : stepTrF P md l F Q S i T a w := by
  simp only [stepTrF, ho]; exact .inr ⟨hw, by simpa [hf] using h T (fun a w h => h)⟩
end
end Go.Proofs.Ytdkegkacpdkjgaa

namespace Go.Proofs.Ytdkegkacpdkjgaa
open Go.RowKit Go.Maps

/-- What is kept is what some truths have, and bounds what any has. -/
structure KepOf (f : Scl → Int × Int) (xs : List Scl) (k : Int × Int × Bool) : Prop where
  no : k.2.2 = false → k = (0, 0, false)
  lo : k.2.2 = true → ∃ x ∈ xs, (f x).1 ≤ (f x).2 ∧ k.1 = (f x).1
  hi : k.2.2 = true → ∃ x ∈ xs, (f x).1 ≤ (f x).2 ∧ k.2.1 = (f x).2
  all : ∀ x ∈ xs, (f x).1 ≤ (f x).2 → k.2.2 = true ∧ k.1 ≤ (f x).1 ∧ (f x).2 ≤ k.2.1
theorem kepS_of {f : Scl → Int × Int} {xs : List Scl} {k : Int × Int × Bool} (h : KepOf f xs k) (x : Scl) : KepOf f (xs ++ [x]) (kepS k (f x).1 (f x).2) := by
  obtain ⟨a, b, t⟩ := k
  obtain ⟨h1, h2, h3, h4⟩ := h
  have hm : ∀ y, y ∈ xs ++ [x] ↔ y ∈ xs ∨ y = x := fun y => by simp
  unfold kepS
  by_cases hx : (f x).1 ≤ (f x).2
  · rw [if_pos hx]
    cases t
    · rw [if_neg (by simp)]
      have hno : ∀ y ∈ xs, ¬ (f y).1 ≤ (f y).2 := fun y hy hle => by cases (h4 y hy hle).1
      refine ⟨fun h => (by cases h), fun _ => ⟨x, (hm x).2 (.inr rfl), hx, rfl⟩, fun _ => ⟨x, (hm x).2 (.inr rfl), hx, rfl⟩, fun y hy hle => ?_⟩
      rcases (hm y).1 hy with h | rfl
      · exact absurd hle (hno y h)
      · exact ⟨rfl, Int.le_refl _, Int.le_refl _⟩
    · rw [if_pos rfl]
      dsimp only at h2 h3 h4 ⊢
      obtain ⟨y, hy, hyl, rfl⟩ := h2 rfl
      obtain ⟨z, hz, hzl, rfl⟩ := h3 rfl
      refine ⟨fun h => (by cases h), fun _ => ?_, fun _ => ?_, fun u hu hle => ?_⟩
      · rcases Int.le_total (f y).1 (f x).1 with h | h
        · exact ⟨y, (hm y).2 (.inl hy), hyl, by dsimp only; omega⟩
        · exact ⟨x, (hm x).2 (.inr rfl), hx, by dsimp only; omega⟩
      · rcases Int.le_total (f x).2 (f z).2 with h | h
        · exact ⟨z, (hm z).2 (.inl hz), hzl, by dsimp only; omega⟩
        · exact ⟨x, (hm x).2 (.inr rfl), hx, by dsimp only; omega⟩
      · rcases (hm u).1 hu with h | rfl
        · have := (h4 u h hle).2
          exact ⟨rfl, by dsimp only; omega, by dsimp only; omega⟩
        · exact ⟨rfl, by dsimp only; omega, by dsimp only; omega⟩
  · rw [if_neg hx]
    refine ⟨h1, fun h => ?_, fun h => ?_, fun y hy hle => ?_⟩
    · obtain ⟨y, hy, hyl, e⟩ := h2 h; exact ⟨y, (hm y).2 (.inl hy), hyl, e⟩
    · obtain ⟨y, hy, hyl, e⟩ := h3 h; exact ⟨y, (hm y).2 (.inl hy), hyl, e⟩
    · rcases (hm y).1 hy with h | rfl
      · exact h4 y h hle
      · exact absurd hle hx
theorem kepL_of (f : Scl → Int × Int) (xs : List Scl) : KepOf f xs (kepL f xs) := by
  have : ∀ (xs ys : List Scl) (k : Int × Int × Bool), KepOf f ys k → KepOf f (ys ++ xs) (xs.foldl (fun k x => kepS k (f x).1 (f x).2) k) := fun xs => by
    induction xs with
    | nil => intro ys k h; simpa using h
    | cons x xs ih =>
      intro ys k h
      have := ih (ys ++ [x]) _ (kepS_of h x)
      simpa using this
  have h := this xs [] (0, 0, false) ⟨fun _ => rfl, fun h => (by cases h), fun h => (by cases h), fun x hx => (by cases hx)⟩
  rw [List.nil_append] at h
  exact h
/-- What more truths have is no narrower. -/
theorem kep_in {f g : Scl → Int × Int} {xs ys : List Scl} (h : ∀ x ∈ xs, (f x).1 ≤ (f x).2 → ∃ y ∈ ys, (g y).1 ≤ (f x).1 ∧ (f x).2 ≤ (g y).2) (hk : (kepL f xs).2.2 = true) :
    (kepL g ys).2.2 = true ∧ (kepL g ys).1 ≤ (kepL f xs).1 ∧ (kepL f xs).2.1 ≤ (kepL g ys).2.1 := by
  obtain ⟨x, hx, hxl, e1⟩ := (kepL_of f xs).lo hk
  obtain ⟨z, hz, hzl, e2⟩ := (kepL_of f xs).hi hk
  obtain ⟨u, hu, hu1, hu2⟩ := h x hx hxl
  obtain ⟨v, hv, hv1, hv2⟩ := h z hz hzl
  have a := (kepL_of g ys).all u hu (by omega)
  have b := (kepL_of g ys).all v hv (by omega)
  exact ⟨a.1, by omega, by omega⟩
theorem kep_no {f : Scl → Int × Int} {xs : List Scl} (h : ∀ x ∈ xs, ¬ (f x).1 ≤ (f x).2) : kepL f xs = (0, 0, false) := by
  have k := kepL_of f xs
  cases ht : (kepL f xs).2.2
  · exact k.no ht
  · obtain ⟨x, hx, hxl, _⟩ := k.lo ht
    exact absurd hxl (h x hx)
/-- What is farther on by as much is kept so. -/
theorem kep_shift {c : Int} {f g : Scl → Int × Int} {xs ys : List Scl} (h1 : ∀ x ∈ xs, (f x).1 ≤ (f x).2 → ∃ y ∈ ys, (g y).1 = (f x).1 + c ∧ (g y).2 = (f x).2 + c)
    (h2 : ∀ y ∈ ys, (g y).1 ≤ (g y).2 → ∃ x ∈ xs, (g y).1 = (f x).1 + c ∧ (g y).2 = (f x).2 + c) :
    kepL g ys = if (kepL f xs).2.2 then ((kepL f xs).1 + c, (kepL f xs).2.1 + c, true) else (0, 0, false) := by
  have kf := kepL_of f xs
  have kg := kepL_of g ys
  cases ht : (kepL f xs).2.2
  · rw [if_neg (by simp)]
    refine kep_no fun y hy hyl => ?_
    obtain ⟨x, hx, e1, e2⟩ := h2 y hy hyl
    have := (kf.all x hx (by omega)).1
    rw [ht] at this; cases this
  · rw [if_pos rfl]
    obtain ⟨x, hx, hxl, e1⟩ := kf.lo ht
    obtain ⟨z, hz, hzl, e2⟩ := kf.hi ht
    obtain ⟨u, hu, u1, u2⟩ := h1 x hx hxl
    obtain ⟨v, hv, v1, v2⟩ := h1 z hz hzl
    have a := kg.all u hu (by omega)
    have b := kg.all v hv (by omega)
    obtain ⟨p, hp, hpl, q1⟩ := kg.lo a.1
    obtain ⟨q, hq, hql, q2⟩ := kg.hi a.1
    obtain ⟨p', hp', r1, r2⟩ := h2 p hp hpl
    obtain ⟨q', hq', r3, r4⟩ := h2 q hq hql
    have c1 := kf.all p' hp' (by omega)
    have c2 := kf.all q' hq' (by omega)
    have e : ∀ k : Int × Int × Bool, k.1 = (kepL f xs).1 + c → k.2.1 = (kepL f xs).2.1 + c → k.2.2 = true → k = ((kepL f xs).1 + c, (kepL f xs).2.1 + c, true) := fun k h1 h2 h3 => by
      obtain ⟨k1, k2, k3⟩ := k
      dsimp only at h1 h2 h3
      rw [h1, h2, h3]
    exact e _ (by omega) (by omega) a.1
theorem kep_same {f g : Scl → Int × Int} {xs ys : List Scl} (h1 : ∀ x ∈ xs, (f x).1 ≤ (f x).2 → ∃ y ∈ ys, g y = f x) (h2 : ∀ y ∈ ys, (g y).1 ≤ (g y).2 → ∃ x ∈ xs, g y = f x) : kepL g ys = kepL f xs := by
  rw [kep_shift (c := 0) (f := f) (g := g) (xs := xs) (ys := ys) (fun x hx hl => by obtain ⟨y, hy, e⟩ := h1 x hx hl; exact ⟨y, hy, by rw [e]; omega, by rw [e]; omega⟩)
    (fun y hy hl => by obtain ⟨x, hx, e⟩ := h2 y hy hl; exact ⟨x, hx, by rw [e]; omega, by rw [e]; omega⟩)]
  have k := kepL_of f xs
  cases ht : (kepL f xs).2.2
  · rw [if_neg (by simp), k.no ht]
  · rw [if_pos rfl, Int.add_zero, Int.add_zero]
    have e : ∀ k : Int × Int × Bool, k.2.2 = true → (k.1, k.2.1, true) = k := fun k h => by obtain ⟨a, b, c⟩ := k; dsimp only at h; rw [h]
    exact e _ ht

/-- Where the corner can be: what all stars of a set allow. -/
theorem cor_iff {ss : List St} {sc : Int} {R : Nat → Bool} {d : Bool} {c : Int} : ∀ {k : Nat}, ((corS ss sc R d k).1 ≤ c ∧ c ≤ (corS ss sc R d k).2) ↔
    ((-67108864 ≤ c ∧ c ≤ 67108864) ∧ ∀ i, i < k → R i = true → (cbS sc (ss.getD i default) d).1 ≤ c ∧ c ≤ (cbS sc (ss.getD i default) d).2)
  | 0 => by unfold corS; exact ⟨fun h => ⟨h, fun i hi => by omega⟩, fun h => h.1⟩
  | k + 1 => by
    have ih := cor_iff (ss := ss) (sc := sc) (R := R) (d := d) (c := c) (k := k)
    rw [corS]
    split
    · rename_i hR
      dsimp only
      constructor
      · intro h
        have h0 := ih.1 ⟨by omega, by omega⟩
        refine ⟨h0.1, fun i hi hr => ?_⟩
        by_cases he : i = k
        · subst he; omega
        · exact h0.2 i (by omega) hr
      · intro h
        have h0 := ih.2 ⟨h.1, fun i hi => h.2 i (by omega)⟩
        have h1 := h.2 k (by omega) hR
        omega
    · rename_i hR
      rw [ih]
      constructor
      · intro h
        refine ⟨h.1, fun i hi hr => ?_⟩
        by_cases he : i = k
        · subst he; exact absurd hr hR
        · exact h.2 i (by omega) hr
      · exact fun h => ⟨h.1, fun i hi => h.2 i (by omega)⟩
/-- A scale is one of a plate if there is a corner with it. -/
def CornC (ss : List St) (sc : Int) (R : Nat → Bool) (n : Nat) (d : Bool) (c : Int) : Prop :=
  (-67108864 ≤ c ∧ c ≤ 67108864) ∧ ∀ i, i < n → R i = true → (cbS sc (ss.getD i default) d).1 ≤ c ∧ c ≤ (cbS sc (ss.getD i default) d).2
theorem corB_iff {ss : List St} {sc : Int} {R : Nat → Bool} {n : Nat} : corB ss sc R n = true ↔ ∀ d, ∃ c, CornC ss sc R n d c := by
  have h : ∀ d, (corS ss sc R d n).1 ≤ (corS ss sc R d n).2 ↔ ∃ c, CornC ss sc R n d c := fun d =>
    ⟨fun h => ⟨_, cor_iff.1 ⟨Int.le_refl _, h⟩⟩, fun ⟨c, hc⟩ => by have := cor_iff.2 hc; omega⟩
  unfold corB
  rw [Bool.and_eq_true, decide_eq_true_eq, decide_eq_true_eq, h, h]
  exact ⟨fun h d => match d with | false => h.1 | true => h.2, fun h => ⟨h false, h true⟩⟩
theorem trTo_has {ss : List St} {R : Nat → Bool} {n : Nat} {lo sc : Int} (hs : 0 ≤ sc ∧ sc ≤ 1000) (hb : corB ss sc R n = true) (h0 : lo ≤ sc) : ∀ {k : Nat}, sc < lo + k → ∃ x ∈ trTo ss R n lo k, x.sc = sc ∧ ∀ d, (x.lo d, x.hi d) = corS ss sc R d n
  | 0, h => by omega
  | k + 1, h => by
    rw [trTo]
    by_cases he : sc = lo + k
    · subst he
      rw [trOf_yes hs hb]
      exact ⟨_, List.mem_append_right _ (List.mem_singleton.2 rfl), rfl, fun d => by cases d <;> rfl⟩
    · obtain ⟨x, hx, e⟩ := trTo_has hs hb h0 (k := k) (by omega)
      exact ⟨x, List.mem_append_left _ hx, e⟩
theorem trL_iff {p : Pl} {ss : List St} (hlo : 1 ≤ p.lo) (hhi : p.hi ≤ 1000) {set : Int} {sc : Int} : (∃ x ∈ trL p ss set, x.sc = sc) ↔ (p.lo ≤ sc ∧ sc ≤ p.hi) ∧ corB ss sc (setI set) p.n = true := by
  constructor
  · rintro ⟨x, hx, rfl⟩
    obtain ⟨h1, h2, h3, _⟩ := trTo_mem hx
    exact ⟨⟨h1, by omega⟩, h3⟩
  · rintro ⟨⟨h1, h2⟩, h3⟩
    obtain ⟨x, hx, e, _⟩ := trTo_has (lo := p.lo) (k := (p.hi - p.lo + 1).toNat) (by omega) h3 h1 (by omega)
    exact ⟨x, hx, e⟩
theorem trL_of {p : Pl} {ss : List St} {set : Int} {x : Scl} (hx : x ∈ trL p ss set) : (p.lo ≤ x.sc ∧ x.sc ≤ p.hi) ∧ corB ss x.sc (setI set) p.n = true ∧ ∀ d, (x.lo d, x.hi d) = corS ss x.sc (setI set) d p.n := by
  obtain ⟨h1, h2, h3, h4⟩ := trTo_mem hx
  exact ⟨⟨h1, by omega⟩, h3, h4⟩
theorem trL_mk {p : Pl} {ss : List St} (hlo : 1 ≤ p.lo) (hhi : p.hi ≤ 1000) {set : Int} {sc : Int} (h1 : p.lo ≤ sc) (h2 : sc ≤ p.hi) (h3 : corB ss sc (setI set) p.n = true) : ∃ x ∈ trL p ss set, x.sc = sc ∧ ∀ d, (x.lo d, x.hi d) = corS ss sc (setI set) d p.n :=
  trTo_has (lo := p.lo) (k := (p.hi - p.lo + 1).toNat) (by omega) h3 h1 (by omega)
theorem canR_iff {p : Pl} {ss : List St} (hlo : 1 ≤ p.lo) (hhi : p.hi ≤ 1000) {set : Int} : canR p ss set = true ↔ ∃ sc, (p.lo ≤ sc ∧ sc ≤ p.hi) ∧ corB ss sc (setI set) p.n = true := by
  unfold canR
  constructor
  · intro h
    cases hx : trL p ss set with
    | nil => rw [hx] at h; cases h
    | cons x xs => exact ⟨x.sc, (trL_iff hlo hhi).1 ⟨x, by rw [hx]; exact List.mem_cons_self, rfl⟩⟩
  · rintro ⟨sc, h⟩
    obtain ⟨x, hx, _⟩ := (trL_iff hlo hhi).2 h
    cases ht : trL p ss set with
    | nil => rw [ht] at hx; cases hx
    | cons => rfl
theorem tr_nil {p : Pl} {ss : List St} {set : Int} : trL p ss set = [] ↔ canR p ss set = false := by
  unfold canR; cases trL p ss set <;> simp
/-- What is known of a star by bits. -/
theorem bit_nat {n i : Nat} (hn : n < 4096) (hi : i < 12) : setI (n : Int) i = n.testBit i := by
  have hp : wrap64 (2 ^ i) = ((2 ^ i : Nat) : Int) := (by decide +kernel : ∀ k : Fin 12, wrap64 (2 ^ k.val) = ((2 ^ k.val : Nat) : Int)) ⟨i, hi⟩
  have hp2 : 1 ≤ 2 ^ i ∧ 2 ^ i < 4096 := (by decide +kernel : ∀ k : Fin 12, 1 ≤ 2 ^ k.val ∧ 2 ^ k.val < 4096) ⟨i, hi⟩
  have ha : n &&& 2 ^ i = if n.testBit i then 2 ^ i else 0 := by
    apply Nat.eq_of_testBit_eq
    intro j
    rw [Nat.testBit_and, Nat.testBit_two_pow]
    by_cases h : i = j
    · subst h
      cases hb : n.testBit i
      · simp
      · simp
    · rw [decide_eq_false h, Bool.and_false]
      split
      · rw [Nat.testBit_two_pow, decide_eq_false h]
      · simp
  have h1 : setI (n : Int) i = (IntKind.i64.wrap (((if n.testBit i then 2 ^ i else 0) : Nat) : Int) != 0) := by
    unfold setI bits
    rw [hp]
    dsimp only
    rw [BitVec.toNat_and, bv_nat (by omega), bv_nat (by omega), ha]
  rw [h1]
  cases n.testBit i
  · rw [if_neg (by simp), i64_of_nat (by omega)]; rfl
  · rw [if_pos rfl, i64_of_nat (by omega)]
    generalize 2 ^ i = q at *
    simp; omega
theorem known_nat (ss : List St) : ∀ k : Nat, k ≤ 12 → ∃ n : Nat, knownTo ss k = (n : Int) ∧ n < 2 ^ k ∧ ∀ i, n.testBit i = (decide (i < k) && (ss.getD i default).k)
  | 0, _ => ⟨0, rfl, by simp, fun i => by simp⟩
  | k + 1, h => by
    obtain ⟨n, e, h1, h2⟩ := known_nat ss k (by omega)
    have hs := known_rng ss k (by omega)
    have hp : 2 ^ (k + 1) = 2 * 2 ^ k := by rw [Nat.pow_succ, Nat.mul_comm]
    rw [knownTo]
    split
    · rename_i hk
      refine ⟨2 ^ k + n, ?_, by omega, fun i => ?_⟩
      · rw [or_bit12 (by omega) hs.1 hs.2, e]; simp; omega
      · rcases Nat.lt_trichotomy i k with hi | rfl | hi
        · rw [Nat.testBit_two_pow_add_gt hi, h2, decide_eq_true hi, decide_eq_true (show i < k + 1 by omega)]
        · rw [Nat.testBit_two_pow_add_eq, h2, decide_eq_false (by omega), decide_eq_true (by omega), hk]; rfl
        · rw [decide_eq_false (by omega), Bool.false_and]
          exact Nat.testBit_lt_two_pow (Nat.lt_of_lt_of_le (show 2 ^ k + n < 2 ^ (k + 1) by omega) (Nat.pow_le_pow_right (by decide) hi))
    · rename_i hk
      refine ⟨n, e, by omega, fun i => ?_⟩
      rw [h2]
      by_cases he : i = k
      · subst he
        rw [decide_eq_false (by omega), Bool.eq_false_iff.2 hk]; simp
      · rw [decide_eq_decide.2 (show i < k ↔ i < k + 1 by omega)]
theorem known_bit (ss : List St) {k i : Nat} (hk : k ≤ 12) (hi : i < k) : setI (knownTo ss k) i = (ss.getD i default).k := by
  obtain ⟨n, e, h1, h2⟩ := known_nat ss k hk
  have hp : 2 ^ k ≤ 4096 := (by decide +kernel : ∀ k : Fin 13, 2 ^ k.val ≤ 4096) ⟨k, by omega⟩
  rw [e, bit_nat (by omega) (by omega), h2, decide_eq_true hi]; simp
theorem known_none {ss : List St} {k : Nat} (hk : k ≤ 12) : knownTo ss k = 0 ↔ ∀ i, i < k → (ss.getD i default).k = false := by
  obtain ⟨n, e, h1, h2⟩ := known_nat ss k hk
  rw [e]
  constructor
  · intro h i hi
    obtain rfl : n = 0 := by omega
    have := h2 i
    rw [decide_eq_true hi, Nat.zero_testBit] at this
    simpa using this.symm
  · intro h
    have : n = 0 := Nat.eq_of_testBit_eq fun i => by
      rw [h2, Nat.zero_testBit]
      by_cases hi : i < k
      · rw [h i hi]; simp
      · rw [decide_eq_false hi]; rfl
    rw [this]; rfl
theorem known_some {ss : List St} {k : Nat} (hk : k ≤ 12) (h : knownTo ss k ≠ 0) : ∃ i, i < k ∧ (ss.getD i default).k = true := by
  by_cases hx : ∃ i, i < k ∧ (ss.getD i default).k = true
  · exact hx
  · refine absurd ((known_none hk).2 fun i hi => ?_) h
    cases e : (ss.getD i default).k
    · rfl
    · exact absurd ⟨i, hi, e⟩ hx
end Go.Proofs.Ytdkegkacpdkjgaa

namespace Go.Proofs.Ytdkegkacpdkjgaa
open Go.RowKit Go.Maps

def movS (b t : Int) (s : St) : St := if s.k then { s with e0 := s.e0 + b, e1 := s.e1 + b, n0 := s.n0 + t, n1 := s.n1 + t } else s
def dlt (b t : Int) (d : Bool) : Int := if d then t else b
theorem mov_k (b t : Int) (s : St) : (movS b t s).k = s.k := by unfold movS; split <;> rfl
theorem mov_on (b t : Int) (s : St) (d : Bool) : (movS b t s).on d = s.on d := by unfold movS; split <;> rfl
theorem mov_sky {b t : Int} {s : St} (h : s.k = true) (d : Bool) : (movS b t s).sky d = ((s.sky d).1 + dlt b t d, (s.sky d).2 + dlt b t d) := by
  unfold movS; rw [if_pos h]; cases d <;> rfl
theorem mov_bey (b t sc : Int) (s : St) (d : Bool) : beyS sc (movS b t s) d = beyS sc s d := by unfold beyS; rw [mov_on]
theorem mov_cb {b t sc : Int} {s : St} (h : s.k = true) (d : Bool) : (cbS sc (movS b t s) d).1 = (cbS sc s d).1 + dlt b t d ∧ (cbS sc (movS b t s) d).2 = (cbS sc s d).2 + dlt b t d := by
  have hs := mov_sky (b := b) (t := t) h d
  unfold cbS saidS
  rw [mov_bey, mov_k, h, if_pos rfl, if_pos rfl, hs]
  dsimp only
  omega
theorem mov_un {b t : Int} {s : St} (h : s.k = false) : movS b t s = s := by unfold movS; rw [h]; rfl
theorem mov_get (b t : Int) (ss : List St) (i : Nat) : (ss.map (movS b t)).getD i default = movS b t (ss.getD i default) := by
  rw [List.getD_eq_getElem?_getD, List.getD_eq_getElem?_getD, List.getElem?_map]
  cases ss[i]? with
  | none => rfl
  | some s => rfl
theorem known_ext {ss ss' : List St} (h : ∀ i, (ss'.getD i default).k = (ss.getD i default).k) : ∀ n, knownTo ss' n = knownTo ss n
  | 0 => rfl
  | n + 1 => by rw [knownTo, knownTo, known_ext h n, h]
theorem mov_known (b t : Int) (ss : List St) (n : Nat) : knownTo (ss.map (movS b t)) n = knownTo ss n := known_ext (fun i => by rw [mov_get, mov_k]) n
theorem mov_none {b t : Int} {ss : List St} (h : knownTo ss ss.length = 0) (h12 : ss.length ≤ 12) : ss.map (movS b t) = ss := by
  apply List.ext_getElem?
  intro i
  rw [List.getElem?_map]
  cases hi : ss[i]? with
  | none => rfl
  | some s =>
    have hl : i < ss.length := (List.getElem?_eq_some_iff.1 hi).1
    have := (known_none h12).1 h i hl
    rw [List.getD_eq_getElem?_getD, hi] at this
    show some (movS b t s) = some s
    rw [mov_un (show s.k = false from this)]
/-- With a known star the corner is near. -/
theorem near {s : St} {d : Bool} (h : StOk s d) (hk : s.k = true) {sc : Int} (h0 : 0 ≤ sc) (h1 : sc ≤ 1000) : -1081344 ≤ (cbS sc s d).1 ∧ (cbS sc s d).2 ≤ 1048576 ∧ (cbS sc s d).1 ≤ (cbS sc s d).2 := by
  have h2 := bey_rng h h0 h1
  have a := h.e hk; have b := h.f hk; have c := h.g hk
  unfold cbS saidS
  rw [hk, if_pos rfl]
  dsimp only
  omega
theorem corn_near {ss : List St} {sc : Int} {R : Nat → Bool} {n i : Nat} {d : Bool} {c : Int} (h : CornC ss sc R n d c) (hi : i < n) (hR : R i = true) (hok : StOk (ss.getD i default) d) (hk : (ss.getD i default).k = true) (h0 : 0 ≤ sc) (h1 : sc ≤ 1000) : -1081344 ≤ c ∧ c ≤ 1048576 := by
  have := h.2 i hi hR
  have := near hok hk h0 h1
  omega
/-- The same truths, farther on. -/
structure Pair (δ : Bool → Int) (xs ys : List Scl) : Prop where
  fwd : ∀ x ∈ xs, ∃ y ∈ ys, y.sc = x.sc ∧ ∀ d, y.lo d = x.lo d + δ d ∧ y.hi d = x.hi d + δ d
  bwd : ∀ y ∈ ys, ∃ x ∈ xs, y.sc = x.sc ∧ ∀ d, y.lo d = x.lo d + δ d ∧ y.hi d = x.hi d + δ d
theorem corS_shift {ss ss' : List St} {sc : Int} {R R' : Nat → Bool} {n : Nat} {d : Bool} {δ : Int} (h : ∀ c, CornC ss sc R n d c ↔ CornC ss' sc R' n d (c + δ)) :
    ((corS ss sc R d n).1 ≤ (corS ss sc R d n).2 ↔ (corS ss' sc R' d n).1 ≤ (corS ss' sc R' d n).2) ∧ ((corS ss sc R d n).1 ≤ (corS ss sc R d n).2 → (corS ss' sc R' d n).1 = (corS ss sc R d n).1 + δ ∧ (corS ss' sc R' d n).2 = (corS ss sc R d n).2 + δ) := by
  have e : ∀ c, ((corS ss sc R d n).1 ≤ c ∧ c ≤ (corS ss sc R d n).2) ↔ ((corS ss' sc R' d n).1 ≤ c + δ ∧ c + δ ≤ (corS ss' sc R' d n).2) := fun c => by rw [cor_iff, cor_iff]; exact h c
  have a := e (corS ss sc R d n).1
  have b := e (corS ss sc R d n).2
  have c := e ((corS ss' sc R' d n).1 - δ)
  have f := e ((corS ss' sc R' d n).2 - δ)
  omega
theorem corB_ne {ss : List St} {sc : Int} {R : Nat → Bool} {n : Nat} (h : corB ss sc R n = true) (d : Bool) : (corS ss sc R d n).1 ≤ (corS ss sc R d n).2 := by
  unfold corB at h
  simp only [Bool.and_eq_true, decide_eq_true_eq] at h
  cases d
  · exact h.1
  · exact h.2
theorem corB_shift {ss ss' : List St} {sc : Int} {R R' : Nat → Bool} {n : Nat} {δ : Bool → Int} (h : ∀ d c, CornC ss sc R n d c ↔ CornC ss' sc R' n d (c + δ d)) : corB ss sc R n = corB ss' sc R' n := by
  have a := (corS_shift (h false)).1
  have b := (corS_shift (h true)).1
  unfold corB
  rw [decide_eq_decide.2 a, decide_eq_decide.2 b]
theorem can_shift {p p' : Pl} {ss ss' : List St} {set set' : Int} {δ : Bool → Int} (hlo : 1 ≤ p.lo) (hhi : p.hi ≤ 1000) (e1 : p'.lo = p.lo) (e2 : p'.hi = p.hi) (e3 : p'.n = p.n)
    (h : ∀ sc, p.lo ≤ sc → sc ≤ p.hi → ∀ d c, CornC ss sc (setI set) p.n d c ↔ CornC ss' sc (setI set') p.n d (c + δ d)) : canR p' ss' set' = canR p ss set := by
  have hi : canR p' ss' set' = true ↔ canR p ss set = true := by
    rw [canR_iff hlo hhi, canR_iff (by omega) (by omega), e1, e2, e3]
    constructor
    · rintro ⟨sc, h1, h2⟩; exact ⟨sc, h1, by rw [corB_shift (h sc h1.1 h1.2)]; exact h2⟩
    · rintro ⟨sc, h1, h2⟩; exact ⟨sc, h1, by rw [← corB_shift (h sc h1.1 h1.2)]; exact h2⟩
  cases ha : canR p ss set
  · cases hb : canR p' ss' set'
    · rfl
    · rw [hi.1 hb] at ha; cases ha
  · exact hi.2 ha
theorem pair_of {p p' : Pl} {ss ss' : List St} {set set' : Int} {δ : Bool → Int} (hlo : 1 ≤ p.lo) (hhi : p.hi ≤ 1000) (e1 : p'.lo = p.lo) (e2 : p'.hi = p.hi) (e3 : p'.n = p.n)
    (h : ∀ sc, p.lo ≤ sc → sc ≤ p.hi → ∀ d c, CornC ss sc (setI set) p.n d c ↔ CornC ss' sc (setI set') p.n d (c + δ d)) : Pair δ (trL p ss set) (trL p' ss' set') := by
  have hl : ∀ (x : Scl) (q : Int × Int) (d : Bool), (x.lo d, x.hi d) = q → x.lo d = q.1 ∧ x.hi d = q.2 := fun x q d h => by rw [← h]; exact ⟨rfl, rfl⟩
  constructor
  · intro x hx
    obtain ⟨⟨h1, h2⟩, h3, h4⟩ := trL_of hx
    obtain ⟨y, hy, y1, y2⟩ := trL_mk (p := p') (ss := ss') (set := set') (by omega) (by omega) (sc := x.sc) (by omega) (by omega) (by rw [e3, ← corB_shift (h _ h1 h2)]; exact h3)
    refine ⟨y, hy, y1, fun d => ?_⟩
    have a := hl _ _ _ (h4 d)
    have b := hl _ _ _ (y2 d)
    rw [e3] at b
    have c := (corS_shift (h x.sc h1 h2 d)).2 (corB_ne h3 d)
    omega
  · intro y hy
    obtain ⟨⟨h1, h2⟩, h3, h4⟩ := trL_of hy
    rw [e3] at h3 h4
    have h3' := h3
    rw [← corB_shift (h y.sc (by omega) (by omega))] at h3'
    obtain ⟨x, hx, x1, x2⟩ := trL_mk (p := p) (ss := ss) (set := set) hlo hhi (sc := y.sc) (by omega) (by omega) h3'
    refine ⟨x, hx, x1.symm, fun d => ?_⟩
    have a := hl _ _ _ (h4 d)
    have b := hl _ _ _ (x2 d)
    have c := (corS_shift (h y.sc (by omega) (by omega) d)).2 (corB_ne h3' d)
    omega
theorem pair_nil {δ : Bool → Int} {xs ys : List Scl} (h : Pair δ xs ys) : xs = [] ↔ ys = [] := by
  constructor
  · rintro rfl
    cases ys with
    | nil => rfl
    | cons y ys => obtain ⟨x, hx, _⟩ := h.bwd y List.mem_cons_self; cases hx
  · rintro rfl
    cases xs with
    | nil => rfl
    | cons x xs => obtain ⟨x, hx, _⟩ := h.fwd x List.mem_cons_self; cases hx
end Go.Proofs.Ytdkegkacpdkjgaa

namespace Go.Proofs.Ytdkegkacpdkjgaa
open Go.RowKit Go.Maps

theorem test_add {b v : Nat} (hv : v < 2 ^ b) (i : Nat) : (2 ^ b + v).testBit i = (decide (i = b) || v.testBit i) := by
  rcases Nat.lt_trichotomy i b with hi | rfl | hi
  · rw [Nat.testBit_two_pow_add_gt hi, decide_eq_false (by omega), Bool.false_or]
  · rw [Nat.testBit_two_pow_add_eq, Nat.testBit_lt_two_pow hv, decide_eq_true rfl]; rfl
  · have hp : 2 ^ (b + 1) ≤ 2 ^ i := Nat.pow_le_pow_right (by decide) hi
    have hq : 2 ^ (b + 1) = 2 * 2 ^ b := by rw [Nat.pow_succ, Nat.mul_comm]
    rw [Nat.testBit_lt_two_pow (show 2 ^ b + v < 2 ^ i by omega), Nat.testBit_lt_two_pow (show v < 2 ^ i by omega), decide_eq_false (by omega)]; rfl
theorem sizeF_add : ∀ (b k v : Nat), b < k → v < 2 ^ b → sizeF k ((2 ^ b + v : Nat) : Int) = sizeF k (v : Int) + 1
  | b, 0, v, h, _ => by omega
  | 0, k + 1, v, _, hv => by
    obtain rfl : v = 0 := by simpa using hv
    rw [sizeF, sizeF]
    show (1 : Int) % 2 + sizeF k (1 / 2) = (0 : Int) % 2 + sizeF k (0 / 2) + 1
    rw [show (1 : Int) / 2 = 0 from rfl, show (0 : Int) / 2 = 0 from rfl, sizeF_zero]; rfl
  | b + 1, k + 1, v, h, hv => by
    have hp : 2 ^ (b + 1) = 2 * 2 ^ b := by rw [Nat.pow_succ, Nat.mul_comm]
    have ih := sizeF_add b k (v / 2) (by omega) (by omega)
    rw [sizeF, sizeF]
    have e1 : ((2 ^ (b + 1) + v : Nat) : Int) / 2 = ((2 ^ b + v / 2 : Nat) : Int) := by omega
    have e2 : (v : Int) / 2 = ((v / 2 : Nat) : Int) := by omega
    have e3 : ((2 ^ (b + 1) + v : Nat) : Int) % 2 = (v : Int) % 2 := by omega
    rw [e1, e2, e3, ih]; omega
theorem popc_add {b v : Nat} (hb : b < 12) (hv : v < 2 ^ b) : popc ((2 ^ b + v : Nat) : Int) = popc (v : Int) + 1 := by
  have hp : 2 ^ (b + 1) ≤ 4096 := (by decide +kernel : ∀ k : Fin 12, 2 ^ (k.val + 1) ≤ 4096) ⟨b, hb⟩
  have hq : 2 ^ (b + 1) = 2 * 2 ^ b := by rw [Nat.pow_succ, Nat.mul_comm]
  rw [← sizeF_popc (by omega), ← sizeF_popc (by omega), sizeF_add b 12 v hb hv]
theorem popc_zero : popc (0 : Int) = 0 := by decide
theorem popc_le : ∀ (b v : Nat), b ≤ 12 → v < 2 ^ b → 0 ≤ popc (v : Int) ∧ popc (v : Int) ≤ b ∧ (popc (v : Int) = 0 → v = 0)
  | 0, v, _, hv => by
    obtain rfl : v = 0 := by simpa using hv
    exact ⟨by decide, by decide, fun _ => rfl⟩
  | b + 1, v, hb, hv => by
    have hq : 2 ^ (b + 1) = 2 * 2 ^ b := by rw [Nat.pow_succ, Nat.mul_comm]
    by_cases h : v < 2 ^ b
    · have := popc_le b v (by omega) h
      exact ⟨this.1, by omega, this.2.2⟩
    · obtain ⟨u, rfl⟩ : ∃ u, v = 2 ^ b + u := ⟨v - 2 ^ b, by omega⟩
      have := popc_le b u (by omega) (by omega)
      rw [popc_add (by omega) (by omega)]
      exact ⟨by omega, by omega, fun h => by omega⟩
theorem sizeF_mono : ∀ (j x y : Nat), (∀ i, i < j → y.testBit i = true → x.testBit i = true) → sizeF j (y : Int) ≤ sizeF j (x : Int) ∧ ∀ i, i < j → x.testBit i = true → y.testBit i = false → sizeF j (y : Int) < sizeF j (x : Int)
  | 0, x, y, _ => ⟨by rw [sizeF, sizeF]; omega, fun i hi => by omega⟩
  | j + 1, x, y, h => by
    have ih := sizeF_mono j (x / 2) (y / 2) (fun i hi hb => by
      have := h (i + 1) (by omega) (by rw [Nat.testBit_succ]; exact hb)
      rw [Nat.testBit_succ] at this; exact this)
    have h0 := h 0 (by omega)
    have t0 : ∀ x : Nat, x.testBit 0 = true ↔ x % 2 = 1 := fun x => by rw [Nat.testBit_zero, decide_eq_true_eq]
    rw [t0, t0] at h0
    rw [sizeF, sizeF]
    have e1 : (x : Int) / 2 = ((x / 2 : Nat) : Int) := by omega
    have e2 : (y : Int) / 2 = ((y / 2 : Nat) : Int) := by omega
    rw [e1, e2]
    generalize sizeF j ((x / 2 : Nat) : Int) = a at *
    generalize sizeF j ((y / 2 : Nat) : Int) = b at *
    refine ⟨by have := ih.1; omega, fun i hi hx hy => ?_⟩
    cases i with
    | zero =>
      have := ih.1
      rw [t0] at hx
      have : ¬ y % 2 = 1 := fun e => by rw [(t0 y).2 e] at hy; cases hy
      omega
    | succ i =>
      rw [Nat.testBit_succ] at hx hy
      have := ih.2 i (by omega) hx hy
      omega
theorem popc_mono {x y : Nat} (hx : x < 4096) (hy : y < 4096) (h : ∀ i, y.testBit i = true → x.testBit i = true) : popc (y : Int) ≤ popc (x : Int) := by
  have := (sizeF_mono 12 x y (fun i _ => h i)).1
  rwa [sizeF_popc (by omega), sizeF_popc (by omega)] at this
theorem popc_lt {x y : Nat} (hx : x < 4096) (hy : y < 4096) (h : ∀ i, y.testBit i = true → x.testBit i = true) {i : Nat} (hi : i < 12) (h1 : x.testBit i = true) (h2 : y.testBit i = false) : popc (y : Int) < popc (x : Int) := by
  have := (sizeF_mono 12 x y (fun i _ => h i)).2 i hi h1 h2
  rwa [sizeF_popc (by omega), sizeF_popc (by omega)] at this
/-- A set of some of all stars. -/
def Sub (v : Nat) (all : Int) : Prop := ∀ i, v.testBit i = true → setI all i = true
theorem or_above {T b : Nat} (hb : b < 12) (hT : T % 2 ^ (b + 1) = 0) (hT2 : T < 4096) : bits .or .i64 (T : Int) (wrap64 (2 ^ b)) = ((T + 2 ^ b : Nat) : Int) := by
  have hp : wrap64 (2 ^ b) = ((2 ^ b : Nat) : Int) := (by decide +kernel : ∀ k : Fin 12, wrap64 (2 ^ k.val) = ((2 ^ k.val : Nat) : Int)) ⟨b, hb⟩
  have hp2 : 1 ≤ 2 ^ b ∧ 2 ^ b < 4096 := (by decide +kernel : ∀ k : Fin 12, 1 ≤ 2 ^ k.val ∧ 2 ^ k.val < 4096) ⟨b, hb⟩
  unfold bits
  rw [hp]
  dsimp only
  have ho : T ||| 2 ^ b = T + 2 ^ b := by
    have e : T = 2 ^ (b + 1) * (T / 2 ^ (b + 1)) := by have := Nat.div_add_mod T (2 ^ (b + 1)); omega
    have hlt : 2 ^ b < 2 ^ (b + 1) := Nat.pow_lt_pow_right (by decide) (by omega)
    have := Nat.two_pow_add_eq_or_of_lt hlt (T / 2 ^ (b + 1))
    rw [← e] at this
    exact this.symm
  rw [BitVec.toNat_or, bv_nat (by omega), bv_nat (by omega), ho, i64_of_nat (by omega)]
theorem mod_half {T b : Nat} (hT : T % 2 ^ (b + 1) = 0) : T % 2 ^ b = 0 ∧ (T + 2 ^ b) % 2 ^ b = 0 := by
  have h : T % 2 ^ b = 0 := Nat.mod_eq_zero_of_dvd (Nat.dvd_trans (Nat.pow_dvd_pow 2 (by omega)) (Nat.dvd_of_mod_eq_zero hT))
  exact ⟨h, by rw [Nat.add_mod_right]; exact h⟩
theorem try_spec (ask : Int → Bool) (all : Int) : ∀ (b m T : Nat), b ≤ 10 → T % 2 ^ b = 0 → T + 2 ^ b ≤ 1024 →
    (∀ x, tryS ask all b (T : Int) m = some x → ∃ u, u < 2 ^ b ∧ Sub u all ∧ popc (u : Int) = m ∧ x = ((T + u : Nat) : Int) ∧ ask x = true ∧ ∀ v, v < 2 ^ b → Sub v all → popc (v : Int) = m → ask ((T + v : Nat) : Int) = true → u ≤ v) ∧
    (tryS ask all b (T : Int) m = none → ∀ v, v < 2 ^ b → Sub v all → popc (v : Int) = m → ask ((T + v : Nat) : Int) = false)
  | 0, m, T, _, _, _ => by
    have hv0 : ∀ v : Nat, v < 2 ^ 0 → v = 0 := fun v hv => by simpa using hv
    have hs0 : Sub 0 all := fun i h => by rw [Nat.zero_testBit] at h; cases h
    have hp0 : popc ((0 : Nat) : Int) = 0 := popc_zero
    rw [tryS]
    by_cases hm : m = 0
    · subst hm
      rw [if_pos rfl]
      cases ha : ask (T : Int)
      · refine ⟨fun x h => (by cases h), fun _ v hv _ _ => ?_⟩
        rw [hv0 v hv, Nat.add_zero]; exact ha
      · refine ⟨fun x h => ?_, fun h => (by cases h)⟩
        injection h with h
        subst h
        exact ⟨0, by decide, hs0, hp0, by rw [Nat.add_zero], ha, fun v _ _ _ _ => Nat.zero_le _⟩
    · rw [if_neg hm]
      refine ⟨fun x h => (by cases h), fun _ v hv _ hp => ?_⟩
      rw [hv0 v hv, hp0] at hp
      omega
  | b + 1, m, T, hb, hT, hT2 => by
    have hq : 2 ^ (b + 1) = 2 * 2 ^ b := by rw [Nat.pow_succ, Nat.mul_comm]
    have hs0 : Sub 0 all := fun i h => by rw [Nat.zero_testBit] at h; cases h
    have hp0 : popc ((0 : Nat) : Int) = 0 := popc_zero
    obtain ⟨hm1, hm2⟩ := mod_half hT
    have h1 := try_spec ask all b m T (by omega) hm1 (by omega)
    have h2 := try_spec ask all b (m - 1) (T + 2 ^ b) (by omega) hm2 (by omega)
    have hor := or_above (T := T) (b := b) (by omega) hT (by omega)
    rw [tryS]
    by_cases hm : m = 0
    · subst hm
      rw [if_pos rfl]
      have hz : ∀ v : Nat, v < 2 ^ (b + 1) → popc (v : Int) = ((0 : Nat) : Int) → v = 0 := fun v hv hp => (popc_le (b + 1) v (by omega) hv).2.2 hp
      cases ha : ask (T : Int)
      · refine ⟨fun x h => (by cases h), fun _ v hv _ hp => ?_⟩
        rw [hz v hv hp, Nat.add_zero]; exact ha
      · refine ⟨fun x h => ?_, fun h => (by cases h)⟩
        injection h with h
        subst h
        exact ⟨0, Nat.two_pow_pos _, hs0, hp0, by rw [Nat.add_zero], ha, fun v _ _ _ _ => Nat.zero_le _⟩
    rw [if_neg hm]
    by_cases hbm : b + 1 < m
    · rw [if_pos hbm]
      refine ⟨fun x h => (by cases h), fun _ v hv _ hp => ?_⟩
      have := (popc_le (b + 1) v (by omega) hv).2.1
      omega
    rw [if_neg hbm]
    cases h3 : tryS ask all b (T : Int) m with
    | some y =>
      obtain ⟨u, u1, u2, u3, u4, u5, u6⟩ := h1.1 y h3
      refine ⟨fun x h => ?_, fun h => (by cases h)⟩
      injection h with h
      subst h
      refine ⟨u, by omega, u2, u3, u4, u5, fun v hv v2 v3 v4 => ?_⟩
      by_cases hvb : v < 2 ^ b
      · exact u6 v hvb v2 v3 v4
      · omega
    | none =>
      have h1n := h1.2 h3
      dsimp only
      cases hal : setI all b
      · rw [if_neg (by simp)]
        refine ⟨fun x h => (by cases h), fun _ v hv v2 v3 => ?_⟩
        by_cases hvb : v < 2 ^ b
        · exact h1n v hvb v2 v3
        · obtain ⟨u, rfl⟩ : ∃ u, v = 2 ^ b + u := ⟨v - 2 ^ b, by omega⟩
          have := v2 b (by rw [test_add (by omega), decide_eq_true rfl]; rfl)
          rw [hal] at this; cases this
      · rw [if_pos rfl, hor]
        have hsp : ∀ u, u < 2 ^ b → (Sub (2 ^ b + u) all ↔ Sub u all) := fun u hu => by
          constructor
          · intro h i hi; exact h i (by rw [test_add hu, hi, Bool.or_true])
          · intro h i hi
            rw [test_add hu, Bool.or_eq_true, decide_eq_true_eq] at hi
            rcases hi with rfl | hi
            · exact hal
            · exact h i hi
        refine ⟨fun x h => ?_, fun h v hv v2 v3 => ?_⟩
        · obtain ⟨u, u1, u2, u3, u4, u5, u6⟩ := h2.1 x h
          refine ⟨2 ^ b + u, by omega, (hsp u u1).2 u2, by rw [popc_add (by omega) u1, u3]; omega, by rw [u4, Nat.add_assoc], u5, fun v hv v2 v3 v4 => ?_⟩
          by_cases hvb : v < 2 ^ b
          · rw [h1n v hvb v2 v3] at v4; cases v4
          · obtain ⟨z, rfl⟩ : ∃ z, v = 2 ^ b + z := ⟨v - 2 ^ b, by omega⟩
            rw [popc_add (by omega) (by omega)] at v3
            have := u6 z (by omega) ((hsp z (by omega)).1 v2) (by omega) (by rw [Nat.add_assoc]; exact v4)
            omega
        · by_cases hvb : v < 2 ^ b
          · exact h1n v hvb v2 v3
          · obtain ⟨z, rfl⟩ : ∃ z, v = 2 ^ b + z := ⟨v - 2 ^ b, by omega⟩
            rw [popc_add (by omega) (by omega)] at v3
            have := h2.2 h z (by omega) ((hsp z (by omega)).1 v2) (by omega)
            rw [← Nat.add_assoc]; exact this
/-- What the fewest stars that are as asked are. -/
structure Few (ask : Int → Bool) (all : Int) (u : Nat) : Prop where
  lt : u < 1024
  sub : Sub u all
  asks : ask (u : Int) = true
  least : ∀ v, v < 1024 → Sub v all → ask (v : Int) = true → popc (u : Int) < popc (v : Int) ∨ (popc (u : Int) = popc (v : Int) ∧ u ≤ v)
theorem fewTo_spec (ask : Int → Bool) (all : Int) : ∀ n : Nat, (∀ x, fewTo ask all n = some x → ∃ u : Nat, x = (u : Int) ∧ Few ask all u) ∧ (fewTo ask all n = none → ∀ v, v < 1024 → Sub v all → popc (v : Int) < n → ask (v : Int) = false)
  | 0 => ⟨fun x h => (by cases h), fun _ v hv _ hp => by have := (popc_le 10 v (by decide) hv).1; omega⟩
  | n + 1 => by
    have ih := fewTo_spec ask all n
    have ht := try_spec ask all 10 n 0 (by decide) (by decide) (by decide)
    rw [fewTo]
    cases h : fewTo ask all n with
    | some y =>
      refine ⟨fun x hx => ?_, fun hx => (by cases hx)⟩
      injection hx with hx
      subst hx
      exact ih.1 y h
    | none =>
      have hn := ih.2 h
      dsimp only
      refine ⟨fun x hx => ?_, fun hx v hv v2 v3 => ?_⟩
      · obtain ⟨u, u1, u2, u3, u4, u5, u6⟩ := ht.1 x hx
        rw [Nat.zero_add] at u4
        subst u4
        refine ⟨u, rfl, u1, u2, u5, fun v hv v2 v3 => ?_⟩
        rcases Int.lt_trichotomy (popc (u : Int)) (popc (v : Int)) with h1 | h1 | h1
        · exact .inl h1
        · exact .inr ⟨h1, u6 v hv v2 (by omega) (by rw [Nat.zero_add]; exact v3)⟩
        · rw [hn v hv v2 (by omega)] at v3; cases v3
      · by_cases hp : popc (v : Int) < n
        · exact hn v hv v2 hp
        · have := ht.2 hx v hv v2 (by omega)
          rwa [Nat.zero_add] at this
theorem few_is {ask : Int → Bool} {all : Nat} (hall : all < 4096) (h : ∃ v : Nat, v < 1024 ∧ Sub v (all : Int) ∧ ask (v : Int) = true) : ∃ u : Nat, fewS ask (all : Int) = (u : Int) ∧ Few ask (all : Int) u := by
  obtain ⟨v, v1, v2, v3⟩ := h
  have hs := fewTo_spec ask (all : Int) (popc (all : Int) + 1).toNat
  unfold fewS
  cases hf : fewTo ask (all : Int) (popc (all : Int) + 1).toNat with
  | some x =>
    obtain ⟨u, rfl, hu⟩ := hs.1 x hf
    exact ⟨u, rfl, hu⟩
  | none =>
    have hm := popc_mono (x := all) (y := v) hall (by omega) (fun i hi => by
      have h12 : i < 12 := by
        rcases Nat.lt_or_ge i 12 with h | h
        · exact h
        · rw [Nat.testBit_lt_two_pow (Nat.lt_of_lt_of_le v1 (Nat.le_trans (by decide : 1024 ≤ 2 ^ 12) (Nat.pow_le_pow_right (by decide) h)))] at hi; cases hi
      rw [← bit_nat hall h12]; exact v2 i hi)
    have hr := popc_rng (all : Int)
    rw [hs.2 hf v v1 v2 (by omega)] at v3; cases v3
theorem few_not {ask : Int → Bool} {all : Nat} (h : ∀ v : Nat, v < 1024 → Sub v (all : Int) → ask (v : Int) = false) : fewS ask (all : Int) = 0 := by
  have hs := fewTo_spec ask (all : Int) (popc (all : Int) + 1).toNat
  unfold fewS
  cases hf : fewTo ask (all : Int) (popc (all : Int) + 1).toNat with
  | none => rfl
  | some x =>
    obtain ⟨u, rfl, hu⟩ := hs.1 x hf
    exact absurd hu.asks (by rw [h u hu.lt hu.sub]; decide)
/-- Two questions with the same answers. -/
theorem few_same {ask ask' : Int → Bool} {all : Nat} (hall : all < 4096) (h : ∀ v : Nat, v < 1024 → Sub v (all : Int) → ask' (v : Int) = ask (v : Int)) : fewS ask' (all : Int) = fewS ask (all : Int) := by
  by_cases hx : ∃ v : Nat, v < 1024 ∧ Sub v (all : Int) ∧ ask (v : Int) = true
  · obtain ⟨u, e1, hu⟩ := few_is hall hx
    obtain ⟨v, v1, v2, v3⟩ := hx
    obtain ⟨u', e2, hu'⟩ := few_is (ask := ask') hall ⟨v, v1, v2, by rw [h v v1 v2]; exact v3⟩
    have a := hu.least u' hu'.lt hu'.sub (by rw [← h u' hu'.lt hu'.sub]; exact hu'.asks)
    have b := hu'.least u hu.lt hu.sub (by rw [h u hu.lt hu.sub]; exact hu.asks)
    rw [e1, e2]
    omega
  · have hn : ∀ v : Nat, v < 1024 → Sub v (all : Int) → ask (v : Int) = false := fun v v1 v2 => by
      cases e : ask (v : Int)
      · rfl
      · exact absurd ⟨v, v1, v2, e⟩ hx
    rw [few_not hn, few_not fun v v1 v2 => by rw [h v v1 v2]; exact hn v v1 v2]
theorem andNot_nat {a b : Nat} (ha : a < 4096) (hb : b < 1000000) : ∃ y : Nat, bits .andNot .i64 (a : Int) (b : Int) = (y : Int) ∧ y ≤ a ∧ ∀ i, y.testBit i = (a.testBit i && !b.testBit i) := by
  unfold bits
  dsimp only
  have e : (BitVec.ofInt IntKind.i64.bits (a : Int) &&& ~~~ BitVec.ofInt IntKind.i64.bits (b : Int)).toNat = a &&& (2 ^ 64 - (b + 1)) := by
    rw [BitVec.toNat_and, BitVec.toNat_not, bv_nat (by omega), bv_nat (by omega)]
    have h64 : 2 ^ IntKind.i64.bits - 1 - b = 2 ^ 64 - (b + 1) := by show 2 ^ 64 - 1 - b = _; omega
    rw [h64]
  have hle : a &&& (2 ^ 64 - (b + 1)) ≤ a := Nat.and_le_left
  refine ⟨a &&& (2 ^ 64 - (b + 1)), by rw [e, i64_of_nat (by omega)], hle, fun i => ?_⟩
  rw [Nat.testBit_and, Nat.testBit_two_pow_sub_succ (by omega)]
  by_cases hi : i < 64
  · rw [decide_eq_true hi]; simp
  · have : a.testBit i = false := Nat.testBit_lt_two_pow (Nat.lt_of_lt_of_le (show a < 2 ^ 64 by omega) (Nat.pow_le_pow_right (by decide) (by omega)))
    rw [this]; simp
/-- Whether stars can be right is asked of each of them alone. -/
theorem corn_ext {ss : List St} {sc : Int} {R R' : Nat → Bool} {n : Nat} (h : ∀ i, i < n → R i = R' i) (d : Bool) (c : Int) : CornC ss sc R n d c ↔ CornC ss sc R' n d c := by
  unfold CornC
  exact ⟨fun k => ⟨k.1, fun i hi hr => k.2 i hi (by rw [h i hi]; exact hr)⟩, fun k => ⟨k.1, fun i hi hr => k.2 i hi (by rw [← h i hi]; exact hr)⟩⟩
end Go.Proofs.Ytdkegkacpdkjgaa

namespace Go.Proofs.Ytdkegkacpdkjgaa
open Go.RowKit Go.Maps

def shV (δ : Bool → Int) (v : Value) : Value := .agg #[.int .i64 (numB v 0 + δ false), .int .i64 (numB v 1 + δ false), .int .i64 (numB v 2 + δ true), .int .i64 (numB v 3 + δ true)]
def shR (δ : Bool → Int) : Except Int Value → Except Int Value
  | .ok v => .ok (shV δ v)
  | .error c => .error c
theorem along_shift {δ : Bool → Int} {f g : Bool → Scl → Int × Int} {xs ys : List Scl} (h1 : ∀ d, ∀ x ∈ xs, (f d x).1 ≤ (f d x).2 → ∃ y ∈ ys, (g d y).1 = (f d x).1 + δ d ∧ (g d y).2 = (f d x).2 + δ d)
    (h2 : ∀ d, ∀ y ∈ ys, (g d y).1 ≤ (g d y).2 → ∃ x ∈ xs, (g d y).1 = (f d x).1 + δ d ∧ (g d y).2 = (f d x).2 + δ d) :
    alongR (kepL (g false) ys) (kepL (g true) ys) = shR δ (alongR (kepL (f false) xs) (kepL (f true) xs)) := by
  rw [kep_shift (h1 false) (h2 false), kep_shift (h1 true) (h2 true)]
  generalize kepL (f false) xs = k0
  generalize kepL (f true) xs = k1
  obtain ⟨a0, a1, a2⟩ := k0
  obtain ⟨b0, b1, b2⟩ := k1
  unfold alongR shR
  cases a2 <;> cases b2 <;> rfl
theorem along_same {f g : Bool → Scl → Int × Int} {xs ys : List Scl} (h1 : ∀ d, ∀ x ∈ xs, (f d x).1 ≤ (f d x).2 → ∃ y ∈ ys, g d y = f d x)
    (h2 : ∀ d, ∀ y ∈ ys, (g d y).1 ≤ (g d y).2 → ∃ x ∈ xs, g d y = f d x) :
    alongR (kepL (g false) ys) (kepL (g true) ys) = alongR (kepL (f false) xs) (kepL (f true) xs) := by
  rw [kep_same (h1 false) (h2 false), kep_same (h1 true) (h2 true)]
/-- Errors are not zero. -/
def noZ (r : Except Int Value) : Prop := ∀ c, r = .error c → c ≠ 0
theorem noZ_err {c : Int} (h : c ≠ 0) : noZ (.error c) := fun x e => by injection e with e; subst e; exact h
theorem noZ_ok (v : Value) : noZ (.ok v) := fun x e => by cases e
theorem along_noZ (k0 k1 : Int × Int × Bool) : noZ (alongR k0 k1) := by
  unfold alongR; (repeat' split) <;> first | exact noZ_ok _ | exact noZ_err (by decide)
theorem zero_noZ (p : Pl) (ss : List St) : noZ (zeroR p ss) := by unfold zeroR tellK; (repeat' split) <;> first | exact along_noZ _ _ | exact noZ_err (by decide)
theorem star_noZ (p : Pl) (ss : List St) (i : Int) : noZ (starR p ss i) := by unfold starR tellK; (repeat' split) <;> first | exact along_noZ _ _ | exact noZ_err (by decide)
theorem apart_noZ (p : Pl) (ss : List St) (i j : Int) : noZ (apartR p ss i j) := by unfold apartR tellR; (repeat' split) <;> first | exact along_noZ _ _ | exact noZ_err (by decide)
theorem find_noZ (p : Pl) (ss : List St) (i j : Int) : noZ (findR p ss i j) := by unfold findR tellK; (repeat' split) <;> first | exact along_noZ _ _ | exact noZ_err (by decide)
theorem scale_noZ (p : Pl) (ss : List St) : noZ (scaleR p ss) := by unfold scaleR scaleV; (repeat' split) <;> first | exact noZ_ok _ | exact noZ_err (by decide)
/-- Numbers of an answer are bounded. -/
def Bnd (M : Int) (r : Except Int Value) : Prop := ∀ v, r = .ok v → ∀ i, i < 4 → -M ≤ numB v i ∧ numB v i ≤ M
theorem bnd_err (M c : Int) : Bnd M (.error c) := fun v e => by cases e
theorem along_bnd {M : Int} {f : Bool → Scl → Int × Int} {xs : List Scl} (h : ∀ d, ∀ x ∈ xs, -M ≤ (f d x).1 ∧ (f d x).2 ≤ M) : Bnd M (alongR (kepL (f false) xs) (kepL (f true) xs)) := by
  have hk : ∀ d, (kepL (f d) xs).2.2 = true → (-M ≤ (kepL (f d) xs).1 ∧ (kepL (f d) xs).1 ≤ M) ∧ -M ≤ (kepL (f d) xs).2.1 ∧ (kepL (f d) xs).2.1 ≤ M := fun d ht => by
    obtain ⟨x, hx, hl, e1⟩ := (kepL_of (f d) xs).lo ht
    obtain ⟨y, hy, hm, e2⟩ := (kepL_of (f d) xs).hi ht
    have a := h d x hx
    have b := h d y hy
    omega
  intro v hv i hi
  unfold alongR at hv
  split at hv
  · rename_i h0
    split at hv
    · rename_i h1
      injection hv with hv
      subst hv
      have a := hk false h0
      have b := hk true h1
      have : i = 0 ∨ i = 1 ∨ i = 2 ∨ i = 3 := by omega
      rcases this with rfl | rfl | rfl | rfl
      · exact a.1
      · exact a.2
      · exact b.1
      · exact b.2
    · cases hv
  · cases hv
theorem zero_bnd {p : Pl} {ss : List St} (h : plB p ss = true → PlOk p ss) : Bnd 100000000 (zeroR p ss) := by
  unfold zeroR tellK
  split
  · rename_i hv
    repeat' split
    · exact bnd_err _ _
    · exact bnd_err _ _
    · exact along_bnd (f := fun d x => (x.lo d, x.hi d)) (xs := trA p ss) fun d x hx => by have a := (trL_ok (h hv) hx).lo d; have b := (trL_ok (h hv) hx).hi d; exact ⟨a.1, b.2⟩
  · exact bnd_err _ _
theorem star_bnd {p : Pl} {ss : List St} (h : plB p ss = true → PlOk p ss) (i : Int) : Bnd 200000000 (starR p ss i) := by
  unfold starR tellK
  split
  · rename_i hv
    split
    · rename_i hi
      repeat' split
      · exact bnd_err _ _
      · exact bnd_err _ _
      · refine along_bnd (f := fun d x => plS x.sc (x.lo d) (x.hi d) (ss.getD i.toNat default) d) (xs := trA p ss) fun d x hx => ?_
        have k := trL_ok (h hv) hx
        have hn := (h hv).nl
        have := pl_rng ((h hv).st i.toNat (by omega) d) (sc := x.sc) (by have := k.s0; omega) k.s1 (k.lo d) (k.hi d)
        exact ⟨by omega, by omega⟩
    · exact bnd_err _ _
  · exact bnd_err _ _
theorem plOk' {p : Pl} {ss : List St} (hn : ss.length = p.n) (hv : plB p ss = true) : PlOk p ss := by
  unfold plB at hv
  simp only [Bool.and_eq_true, decide_eq_true_eq, List.all_eq_true] at hv
  obtain ⟨⟨⟨⟨h1, h2⟩, h3⟩, h4⟩, h5⟩ := hv
  refine ⟨h1, h2, h3, h4, hn, fun i hi d => stOk (h5 _ ?_) d⟩
  have e : ss.getD i default = ss[i] := by simp [List.getD, hi]
  rw [e]; exact List.getElem_mem hi
/-- An answer that is farther on, in numbers. -/
theorem rep_shift {δ : Bool → Int} {M : Int} {r : Except Int Value} (h : isFour r) (hz : noZ r) (hb : Bnd M r) (hM : 0 ≤ M) : ∃ a b c d e a' b' c' d' : Int, repB r = .tuple #[.agg #[.int .i64 a, .int .i64 b], .agg #[.int .i64 c, .int .i64 d], .int .i64 e] ∧
    repB (shR δ r) = .tuple #[.agg #[.int .i64 a', .int .i64 b'], .agg #[.int .i64 c', .int .i64 d'], .int .i64 e] ∧ (e = 0 → a' = a + δ false ∧ b' = b + δ false ∧ c' = c + δ true ∧ d' = d + δ true) ∧
    ((-M ≤ a ∧ a ≤ M) ∧ (-M ≤ b ∧ b ≤ M) ∧ (-M ≤ c ∧ c ≤ M) ∧ (-M ≤ d ∧ d ≤ M)) := by
  cases r with
  | error c => exact ⟨0, 0, 0, 0, c, 0, 0, 0, 0, rfl, rfl, fun h => absurd h (hz c rfl), by omega⟩
  | ok v =>
    have hb := hb v rfl
    obtain ⟨a, b, c, d, rfl⟩ := h v rfl
    exact ⟨a, b, c, d, 0, a + δ false, b + δ false, c + δ true, d + δ true, rfl, rfl, fun _ => ⟨rfl, rfl, rfl, rfl⟩, hb 0 (by decide), hb 1 (by decide), hb 2 (by decide), hb 3 (by decide)⟩
section
variable {p p' : Pl} {ss : List St} {b t : Int}
/-- A plate whose known places are moved, and it before. -/
structure Mvd (p p' : Pl) (ss : List St) (b t : Int) : Prop where
  lo : p'.lo = p.lo
  hi : p'.hi = p.hi
  n : p'.n = p.n
  nl : ss.length = p.n
  v : plB p ss = true
  v' : plB p' (ss.map (movS b t)) = true
theorem Mvd.ok (h : Mvd p p' ss b t) : PlOk p ss := plOk' h.nl h.v
theorem Mvd.ok' (h : Mvd p p' ss b t) : PlOk p' (ss.map (movS b t)) := plOk' (by rw [List.length_map, h.nl, h.n]) h.v'
theorem Mvd.st (h : Mvd p p' ss b t) {i : Nat} (hi : i < p.n) (d : Bool) : StOk (movS b t (ss.getD i default)) d := by
  rw [← mov_get]; exact h.ok'.st i (by rw [List.length_map, h.nl]; exact hi) d
theorem mvd_corn (h : Mvd p p' ss b t) {set : Int} {i0 : Nat} (hi0 : i0 < p.n) (hk0 : (ss.getD i0 default).k = true) (hR0 : setI set i0 = true) (hsub : ∀ i, i < p.n → setI set i = true → (ss.getD i default).k = true)
    {sc : Int} (h1 : p.lo ≤ sc) (h2 : sc ≤ p.hi) (d : Bool) (c : Int) : CornC ss sc (setI set) p.n d c ↔ CornC (ss.map (movS b t)) sc (setI set) p.n d (c + dlt b t d) := by
  have ok := h.ok
  have hlo := ok.lo
  have hhi := ok.hi
  constructor
  · intro hc
    have hin : ∀ i, i < p.n → setI set i = true → (cbS sc (movS b t (ss.getD i default)) d).1 ≤ c + dlt b t d ∧ c + dlt b t d ≤ (cbS sc (movS b t (ss.getD i default)) d).2 := fun i hi hr => by
      have a := mov_cb (b := b) (t := t) (sc := sc) (hsub i hi hr) d
      have := hc.2 i hi hr
      omega
    have hn := near (h.st hi0 d) (by rw [mov_k]; exact hk0) (sc := sc) (by omega) (by omega)
    have := hin i0 hi0 hR0
    exact ⟨by omega, fun i hi hr => by rw [mov_get]; exact hin i hi hr⟩
  · intro hc
    have hin : ∀ i, i < p.n → setI set i = true → (cbS sc (ss.getD i default) d).1 ≤ c ∧ c ≤ (cbS sc (ss.getD i default) d).2 := fun i hi hr => by
      have a := mov_cb (b := b) (t := t) (sc := sc) (hsub i hi hr) d
      have := hc.2 i hi hr
      rw [mov_get] at this
      omega
    have hn := near (ok.st i0 (by rw [h.nl]; exact hi0) d) hk0 (sc := sc) (by omega) (by omega)
    have := hin i0 hi0 hR0
    exact ⟨by omega, hin⟩
theorem tr_same (e1 : p'.lo = p.lo) (e2 : p'.hi = p.hi) (e3 : p'.n = p.n) (ss : List St) (set : Int) : trL p' ss set = trL p ss set := by unfold trL; rw [e1, e2, e3]
theorem mvd_pair (h : Mvd p p' ss b t) (hk : knownTo ss p.n ≠ 0) : Pair (dlt b t) (trA p ss) (trA p' (ss.map (movS b t))) := by
  have ok := h.ok
  have h12 : p.n ≤ 12 := by have := ok.n10; omega
  obtain ⟨i0, hi0, hk0⟩ := known_some h12 hk
  unfold trA
  rw [mov_known, h.n]
  refine pair_of ok.lo ok.hi h.lo h.hi h.n fun sc h1 h2 d c => ?_
  exact mvd_corn h hi0 hk0 (by rw [known_bit ss h12 hi0]; exact hk0) (fun i hi hr => by rw [known_bit ss h12 hi] at hr; exact hr) h1 h2 d c
/-- Where the corner is, if a star is known. -/
theorem tr_near {p : Pl} {ss : List St} (ok : PlOk p ss) (hk : knownTo ss p.n ≠ 0) {x : Scl} (hx : x ∈ trA p ss) (d : Bool) : -1081344 ≤ x.lo d ∧ x.hi d ≤ 1048576 ∧ x.lo d ≤ x.hi d := by
  have h12 : p.n ≤ 12 := by have := ok.n10; omega
  obtain ⟨i0, hi0, hk0⟩ := known_some h12 hk
  obtain ⟨⟨h1, h2⟩, h3, h4⟩ := trL_of hx
  have hlo := ok.lo
  have hhi := ok.hi
  have hl : x.lo d = (corS ss x.sc (setI (knownTo ss p.n)) d p.n).1 := by rw [← h4 d]
  have hh : x.hi d = (corS ss x.sc (setI (knownTo ss p.n)) d p.n).2 := by rw [← h4 d]
  have hle : x.lo d ≤ x.hi d := by
    unfold corB at h3
    simp only [Bool.and_eq_true, decide_eq_true_eq] at h3
    cases d
    · omega
    · omega
  have a := cor_iff.1 (show _ ∧ x.lo d ≤ _ from ⟨by rw [hl]; exact Int.le_refl _, by rw [← hh]; exact hle⟩)
  have b := cor_iff.1 (show _ ≤ x.hi d ∧ _ from ⟨by rw [← hl]; exact hle, by rw [hh]; exact Int.le_refl _⟩)
  have hR0 : setI (knownTo ss p.n) i0 = true := by rw [known_bit ss h12 hi0]; exact hk0
  have c := corn_near a hi0 hR0 (ok.st i0 (by rw [ok.nl]; exact hi0) d) hk0 (by omega) (by omega)
  have e := corn_near b hi0 hR0 (ok.st i0 (by rw [ok.nl]; exact hi0) d) hk0 (by omega) (by omega)
  omega
theorem mvd_pl (h : Mvd p p' ss b t) (hk : knownTo ss p.n ≠ 0) {x y : Scl} (hx : x ∈ trA p ss) (hy : y ∈ trA p' (ss.map (movS b t))) (e : y.sc = x.sc) (hs : ∀ d, y.lo d = x.lo d + dlt b t d ∧ y.hi d = x.hi d + dlt b t d) {i : Nat} (hi : i < p.n) (d : Bool) :
    (plS y.sc (y.lo d) (y.hi d) (movS b t (ss.getD i default)) d).1 = (plS x.sc (x.lo d) (x.hi d) (ss.getD i default) d).1 + dlt b t d ∧ (plS y.sc (y.lo d) (y.hi d) (movS b t (ss.getD i default)) d).2 = (plS x.sc (x.lo d) (x.hi d) (ss.getD i default) d).2 + dlt b t d := by
  have ok := h.ok
  have n1 := tr_near ok hk hx d
  have n2 := tr_near h.ok' (by rw [h.n, mov_known]; exact hk) hy d
  have k := trL_ok ok hx
  have hb := bey_rng (ok.st i (by rw [ok.nl]; exact hi) d) (sc := x.sc) (by have := k.s0; omega) k.s1
  obtain ⟨s1, s2⟩ := hs d
  unfold plS
  rw [e, mov_bey, s1, s2]
  unfold saidS
  rw [mov_k]
  generalize ss.getD i default = s at *
  generalize beyS x.sc s d = z at *
  cases hsk : s.k
  · simp only [Bool.false_eq_true, if_false]
    omega
  · rw [mov_sky hsk]
    simp only [if_true]
    omega
theorem mvd_scale (h : Mvd p p' ss b t) : scaleR p' (ss.map (movS b t)) = scaleR p ss := by
  unfold scaleR
  rw [h.v, h.v', if_pos rfl, if_pos rfl]
  by_cases hk : knownTo ss p.n = 0
  · have e : ss.map (movS b t) = ss := mov_none (by rw [h.nl]; exact hk) (by have := h.ok.n10; have := h.nl; omega)
    have e2 : trA p' ss = trA p ss := by unfold trA; rw [h.n]; exact tr_same h.lo h.hi h.n ss _
    rw [e, e2]
  · have hp := mvd_pair h hk
    have e : kepL (scaleF false) (trA p' (ss.map (movS b t))) = kepL (scaleF false) (trA p ss) := kep_same
      (fun x hx _ => by obtain ⟨y, hy, e, _⟩ := hp.fwd x hx; exact ⟨y, hy, by unfold scaleF; rw [e]⟩)
      (fun y hy _ => by obtain ⟨x, hx, e, _⟩ := hp.bwd y hy; exact ⟨x, hx, by unfold scaleF; rw [e]⟩)
    rw [e]
    by_cases hn : trA p ss = []
    · rw [if_pos hn, if_pos ((pair_nil hp).1 hn)]
    · rw [if_neg hn, if_neg (fun hn' => hn ((pair_nil hp).2 hn'))]
/-- What is asked of all truths is farther on. -/
theorem mvd_tellK (h : Mvd p p' ss b t) {f g : Bool → Scl → Int × Int} {δ : Bool → Int}
    (hfg : knownTo ss p.n ≠ 0 → ∀ d, ∀ x ∈ trA p ss, ∀ y ∈ trA p' (ss.map (movS b t)), y.sc = x.sc → (∀ d, y.lo d = x.lo d + dlt b t d ∧ y.hi d = x.hi d + dlt b t d) → (g d y).1 = (f d x).1 + δ d ∧ (g d y).2 = (f d x).2 + δ d) :
    tellK p' (ss.map (movS b t)) g = shR δ (tellK p ss f) := by
  unfold tellK
  rw [mov_known, h.n]
  by_cases hk : knownTo ss p.n = 0
  · have e : ss.map (movS b t) = ss := mov_none (by rw [h.nl]; exact hk) (by have := h.ok.n10; have := h.nl; omega)
    have e2 : trA p' ss = trA p ss := by unfold trA; rw [h.n]; exact tr_same h.lo h.hi h.n ss _
    rw [e, e2]
    by_cases hn : trA p ss = []
    · rw [if_pos hn, if_pos hn]; rfl
    · rw [if_neg hn, if_neg hn, if_pos hk, if_pos hk]; rfl
  · have hp := mvd_pair h hk
    by_cases hn : trA p ss = []
    · rw [if_pos hn, if_pos ((pair_nil hp).1 hn)]; rfl
    · rw [if_neg hn, if_neg (fun hn' => hn ((pair_nil hp).2 hn')), if_neg hk, if_neg hk]
      exact along_shift (fun d x hx _ => by obtain ⟨y, hy, e, s⟩ := hp.fwd x hx; exact ⟨y, hy, hfg hk d x hx y hy e s⟩)
        (fun d y hy _ => by obtain ⟨x, hx, e, s⟩ := hp.bwd y hy; exact ⟨x, hx, hfg hk d x hx y hy e s⟩)
theorem shR_zero {r : Except Int Value} (h : isFour r) : shR (fun _ => 0) r = r := by
  cases r with
  | error c => rfl
  | ok v =>
    obtain ⟨a, b, c, d, rfl⟩ := h v rfl
    show Except.ok (Value.agg #[.int .i64 (a + 0), .int .i64 (b + 0), .int .i64 (c + 0), .int .i64 (d + 0)]) = _
    rw [Int.add_zero, Int.add_zero, Int.add_zero, Int.add_zero]
theorem mvd_zero (h : Mvd p p' ss b t) : zeroR p' (ss.map (movS b t)) = shR (dlt b t) (zeroR p ss) := by
  unfold zeroR
  rw [h.v, h.v', if_pos rfl, if_pos rfl]
  exact mvd_tellK h fun _ d x _ y _ _ s => s d
theorem mvd_star (h : Mvd p p' ss b t) (i : Int) : starR p' (ss.map (movS b t)) i = shR (dlt b t) (starR p ss i) := by
  unfold starR
  rw [h.v, h.v', if_pos rfl, if_pos rfl, h.n]
  by_cases hi : 0 ≤ i ∧ i < p.n
  · rw [if_pos hi, if_pos hi]
    refine mvd_tellK h fun hk d x hx y hy e s => ?_
    rw [mov_get]
    exact mvd_pl h hk hx hy e s (by omega) d
  · rw [if_neg hi, if_neg hi]; rfl
theorem mvd_apart (h : Mvd p p' ss b t) (i j : Int) : apartR p' (ss.map (movS b t)) i j = apartR p ss i j := by
  unfold apartR
  rw [h.v, h.v', if_pos rfl, if_pos rfl, h.n]
  by_cases hi : 0 ≤ i ∧ i < p.n
  · rw [if_pos hi, if_pos hi]
    by_cases hj : 0 ≤ j ∧ j < p.n
    · rw [if_pos hj, if_pos hj]
      unfold tellR
      by_cases hk : knownTo ss p.n = 0
      · have e : ss.map (movS b t) = ss := mov_none (by rw [h.nl]; exact hk) (by have := h.ok.n10; have := h.nl; omega)
        have e2 : trA p' ss = trA p ss := by unfold trA; rw [h.n]; exact tr_same h.lo h.hi h.n ss _
        rw [e, e2]
      · have hp := mvd_pair h hk
        have hf : ∀ d, ∀ x ∈ trA p ss, ∀ y ∈ trA p' (ss.map (movS b t)), y.sc = x.sc → (∀ d, y.lo d = x.lo d + dlt b t d ∧ y.hi d = x.hi d + dlt b t d) → apartF (ss.map (movS b t)) i.toNat j.toNat d y = apartF ss i.toNat j.toNat d x := fun d x hx y hy e s => by
          unfold apartF
          split
          · rfl
          · have a := mvd_pl h hk hx hy e s (i := i.toNat) (by omega) d
            have c := mvd_pl h hk hx hy e s (i := j.toNat) (by omega) d
            unfold apS
            rw [mov_get, mov_get, a.1, a.2, c.1, c.2, mov_bey, mov_bey, e]
            refine Prod.ext ?_ ?_ <;> dsimp only <;> omega
        by_cases hn : trA p ss = []
        · rw [if_pos hn, if_pos ((pair_nil hp).1 hn)]
        · rw [if_neg hn, if_neg (fun hn' => hn ((pair_nil hp).2 hn'))]
          exact along_same (fun d x hx _ => by obtain ⟨y, hy, e, s⟩ := hp.fwd x hx; exact ⟨y, hy, hf d x hx y hy e s⟩)
            (fun d y hy _ => by obtain ⟨x, hx, e, s⟩ := hp.bwd y hy; exact ⟨x, hx, hf d x hx y hy e s⟩)
    · rw [if_neg hj, if_neg hj]
  · rw [if_neg hi, if_neg hi]
theorem mvd_find (h : Mvd p p' ss b t) {e n : Int} (h1 : (skyB e e && skyB n n) = true) (h2 : (skyB (e + b) (e + b) && skyB (n + t) (n + t)) = true) : findR p' (ss.map (movS b t)) (e + b) (n + t) = findR p ss e n := by
  have hz : findR p' (ss.map (movS b t)) (e + b) (n + t) = shR (fun _ => 0) (findR p ss e n) := by
    unfold findR
    rw [h.v, h.v', if_pos rfl, if_pos rfl, h1, h2, if_pos rfl, if_pos rfl]
    refine mvd_tellK h fun hk d x hx y hy e s => ?_
    obtain ⟨s1, s2⟩ := s d
    unfold fiS
    rw [e, s1, s2]
    unfold soughtS dlt St.sky St.on
    cases d
    · simp only [Bool.false_eq_true, if_false]
      rw [show ∀ a b c : Int, a + b - (c + b) = a - c from fun a b c => by omega, show ∀ a b c : Int, a + b - (c + b) = a - c from fun a b c => by omega]
      omega
    · simp only [if_true]
      rw [show ∀ a b c : Int, a + b - (c + b) = a - c from fun a b c => by omega, show ∀ a b c : Int, a + b - (c + b) = a - c from fun a b c => by omega]
      omega
  rw [hz, shR_zero (find_four p ss e n)]
theorem sub_lt {v : Nat} {ss : List St} {n : Nat} (hn : n ≤ 12) (h : Sub v (knownTo ss n)) {i : Nat} (hi : v.testBit i = true) (h12 : i < 12) : i < n ∧ (ss.getD i default).k = true := by
  obtain ⟨a, e, h1, h2⟩ := known_nat ss n hn
  have hp : 2 ^ n ≤ 4096 := (by decide +kernel : ∀ k : Fin 13, 2 ^ k.val ≤ 4096) ⟨n, by omega⟩
  have := h i hi
  rw [e, bit_nat (by omega) h12, h2, Bool.and_eq_true, decide_eq_true_eq] at this
  exact this
theorem mvd_can (h : Mvd p p' ss b t) {v : Nat} (hv : v < 1024) (hs : Sub v (knownTo ss p.n)) : canR p' (ss.map (movS b t)) (v : Int) = canR p ss (v : Int) := by
  have ok := h.ok
  have h12 : p.n ≤ 12 := by have := ok.n10; omega
  have hb : ∀ i, i < p.n → setI (v : Int) i = v.testBit i := fun i hi => bit_nat (by omega) (by omega)
  by_cases hx : ∃ i, i < p.n ∧ setI (v : Int) i = true
  · obtain ⟨i0, hi0, hr0⟩ := hx
    have hk : ∀ i, i < p.n → setI (v : Int) i = true → (ss.getD i default).k = true := fun i hi hr => (sub_lt h12 hs (by rw [← hb i hi]; exact hr) (by omega)).2
    exact can_shift ok.lo ok.hi h.lo h.hi h.n fun sc h1 h2 d c => mvd_corn h hi0 (hk i0 hi0 hr0) hr0 hk h1 h2 d c
  · refine can_shift (δ := fun _ => 0) ok.lo ok.hi h.lo h.hi h.n fun sc h1 h2 d c => ?_
    unfold CornC
    rw [Int.add_zero]
    exact ⟨fun k => ⟨k.1, fun i hi hr => absurd ⟨i, hi, hr⟩ hx⟩, fun k => ⟨k.1, fun i hi hr => absurd ⟨i, hi, hr⟩ hx⟩⟩
theorem known_sub {ss : List St} {n a : Nat} (h12 : n ≤ 12) (e : knownTo ss n = (a : Int)) : Sub a (knownTo ss n) ∧ a < 2 ^ n := by
  obtain ⟨a', e', h1, h2⟩ := known_nat ss n h12
  obtain rfl : a' = a := by omega
  have hp : 2 ^ n ≤ 4096 := (by decide +kernel : ∀ k : Fin 13, 2 ^ k.val ≤ 4096) ⟨n, by omega⟩
  refine ⟨fun i hi => ?_, h1⟩
  have hi2 := hi
  rw [h2, Bool.and_eq_true, decide_eq_true_eq] at hi2
  rw [e, bit_nat (by omega) (by omega)]; exact hi
theorem mvd_clash (h : Mvd p p' ss b t) : clashR p' (ss.map (movS b t)) = clashR p ss := by
  have ok := h.ok
  have h12 : p.n ≤ 12 := by have := ok.n10; omega
  obtain ⟨a, e, _, _⟩ := known_nat ss p.n h12
  obtain ⟨hsub, halt⟩ := known_sub h12 e
  have h10 : 2 ^ p.n ≤ 1024 := (by decide +kernel : ∀ k : Fin 11, 2 ^ k.val ≤ 1024) ⟨p.n, by have := ok.n10; omega⟩
  unfold clashR
  rw [h.v, h.v', if_pos rfl, if_pos rfl, mov_known, h.n]
  have hc := fun v hv hs => mvd_can h (v := v) hv hs
  rw [e] at hc hsub ⊢
  rw [hc a (by omega) hsub, few_same (ask := clashF p ss) (ask' := clashF p' (ss.map (movS b t))) (by omega) fun v hv hs => by unfold clashF; rw [hc v hv hs]]
/-- What is found of a place that is moved: the place is none, or the same is found, or the moved place is none. -/
theorem find_facts (h : Mvd p p' ss b t) (e n : Int) {f0 f1 f2 f3 ef : Int} (hf : repB (findR p ss e n) = .tuple #[.agg #[.int .i64 f0, .int .i64 f1], .agg #[.int .i64 f2, .int .i64 f3], .int .i64 ef]) :
    ef = 2 ∨ ((-1048576 ≤ e ∧ e ≤ 1048576) ∧ (-1048576 ≤ n ∧ n ≤ 1048576) ∧ ∃ a b' c d eg, repB (findR p' (ss.map (movS b t)) (e + b) (n + t)) = .tuple #[.agg #[.int .i64 a, .int .i64 b'], .agg #[.int .i64 c, .int .i64 d], .int .i64 eg] ∧ (eg = 2 ∨ (a = f0 ∧ b' = f1 ∧ c = f2 ∧ d = f3 ∧ eg = ef))) := by
  have hz : ∀ {q : Pl} {xs : List St} {e n : Int}, plB q xs = true → (skyB e e && skyB n n) = false → findR q xs e n = .error 2 := fun hv hs => by unfold findR; rw [if_pos hv, hs]; rfl
  cases h1 : (skyB e e && skyB n n)
  · left
    rw [hz h.v h1] at hf
    have hf : Value.tuple #[.agg #[.int .i64 0, .int .i64 0], .agg #[.int .i64 0, .int .i64 0], .int .i64 2] = _ := hf
    simp at hf
    omega
  · right
    have h1' := h1
    unfold skyB at h1'
    simp only [Bool.and_eq_true, decide_eq_true_eq] at h1'
    refine ⟨by omega, by omega, ?_⟩
    cases h2 : (skyB (e + b) (e + b) && skyB (n + t) (n + t))
    · exact ⟨0, 0, 0, 0, 2, by rw [hz h.v' h2]; rfl, .inl rfl⟩
    · exact ⟨f0, f1, f2, f3, ef, by rw [mvd_find h h1 h2]; exact hf, .inr ⟨rfl, rfl, rfl, rfl, rfl⟩⟩
end
end Go.Proofs.Ytdkegkacpdkjgaa

namespace Go.Proofs.Ytdkegkacpdkjgaa
open Go.RowKit Go.Maps

/-- Two plates in variables. -/
structure Mv2 (Y : World) (B G : Nat) (p px : Pl) (ss xs : List St) : Prop where
  bp : BoxP Y B p
  bx : BoxP Y G px
  mp : PlAt p ss Y
  mx : PlAt px xs Y
theorem Mv2.grown {Y Y' : World} {B G : Nat} {p px : Pl} {ss xs : List St} (h : Mv2 Y B G p px ss xs) (hb : Below Y.heap.size Y Y') : Mv2 Y' B G p px ss xs :=
  ⟨h.bp.grown hb, h.bx.grown hb, h.mp.below hb (Nat.le_refl _), h.mx.below hb (Nat.le_refl _)⟩
theorem BoxP.under {X X' : World} {B M : Nat} {p : Pl} (k : BoxP X B p) (hb : Below M X X') (hB : B < M) : BoxP X' B p :=
  ⟨(hb.cell (p := ⟨B, 0, none⟩) hB).trans k.c0, (hb.cell (p := ⟨B, 1, none⟩) hB).trans k.c1, (hb.cell (p := ⟨B, 2, none⟩) hB).trans k.c2⟩
theorem Worst.put {X : World} {P B : Nat} {s x : Int} (h : Worst X P s x) (hn : P ≠ B) (o : Nat) (v : Value) : Worst (X.setCell ⟨B, o, none⟩ v) P s x := by
  obtain ⟨c0, c1, f0, f1⟩ := h
  have e : ∀ k, (⟨B, o, none⟩ : Addr) ≠ ⟨P, k, none⟩ := fun k he => by injection he with h1; exact hn h1.symm
  exact ⟨by rw [World.cell?_setCell_other _ _ _ _ (e 0)]; exact c0, by rw [World.cell?_setCell_other _ _ _ _ (e 1)]; exact c1, by simpa using f0, by simpa using f1⟩
/-- Two spans are stored. -/
theorem set_two {X : World} {C D : Nat} {a b c d : Int} (hC : Worst X C a b) (hD : Worst X D c d) (hne : C ≠ D) (a' b' c' d' : Int) {Z : World}
    (hZ : (((X.setCell ⟨C, 0, none⟩ (.int .i64 a')).setCell ⟨C, 1, none⟩ (.int .i64 b')).setCell ⟨D, 0, none⟩ (.int .i64 c')).setCell ⟨D, 1, none⟩ (.int .i64 d') = Z) :
    Worst Z C a' b' ∧ Worst Z D c' d' ∧ (∀ P s x, Worst X P s x → P ≠ C → P ≠ D → Worst Z P s x) ∧ (∀ (M : Nat) (X0 : World), M ≤ C → M ≤ D → Below M X0 X → Below M X0 Z) := by
  subst hZ
  refine ⟨((hC.set a' b').put hne 0 _).put hne 1 _, (((hD.put hne.symm 0 _).put hne.symm 1 _)).set c' d', fun P s x h h1 h2 => (((h.put h1 0 _).put h1 1 _).put h2 0 _).put h2 1 _, fun M X0 h1 h2 h => ?_⟩
  exact (((h.setCell (p := ⟨C, 0, none⟩) h1 _).setCell (p := ⟨C, 1, none⟩) h1 _).setCell (p := ⟨D, 0, none⟩) h2 _).setCell (p := ⟨D, 1, none⟩) h2 _
/-- Where something lies that a walk asks for. -/
theorem Worst.cells {X : World} {P : Nat} {s x : Int} (h : Worst X P s x) : X.cell? ⟨P, 0, none⟩ = some (.int .i64 s) ∧ X.cell? ⟨P, 1, none⟩ = some (.int .i64 x) := ⟨h.c0, h.c1⟩
end Go.Proofs.Ytdkegkacpdkjgaa

namespace Go.Proofs.Ytdkegkacpdkjgaa
open Go.RowKit Go.Maps

theorem onL_any (lo hi n : Int) (hn : -32768 ≤ n ∧ n ≤ 32767) (h1 : -1000000000 ≤ lo ∧ lo ≤ 1000000000) (h2 : -1000000000 ≤ hi ∧ hi ≤ 1000000000) (w : World) :
    Calls Try.prog 32 #[.agg #[.int .i64 lo, .int .i64 hi], .int .i16 n] w (Ret (.agg #[.int .i64 (lo + n), .int .i64 (hi + n)]) w) := by
  obtain ⟨W0, hW0⟩ : ∃ X, (w.alloc (.cells #[.int .i64 lo, .int .i64 hi] 23)).alloc (.cells #[.int .i64 0, .int .i64 0] 23) = X := ⟨_, rfl⟩
  have hB : Below w.heap.size w W0 := by rw [← hW0]; exact BA (newB _ _) _
  have hs : Slots (w.heap.size + 1) 2 W0 := by
    rw [← hW0]; intro o ho
    have : o = 0 ∨ o = 1 := by omega
    rcases this with rfl | rfl <;> simp [go_sem]
  have b0 : W0.cell? ⟨w.heap.size, 0, none⟩ = some (.int .i64 lo) := by rw [← hW0]; simp [go_sem]
  have b1 : W0.cell? ⟨w.heap.size, 1, none⟩ = some (.int .i64 hi) := by rw [← hW0]; simp [go_sem]
  have hl : w.heap.size + 1 < W0.heap.size := by rw [← hW0]; simp
  go_enter Try.func32, Try.ntmps32
  go_wp2_with fail
  clear hW0
  refine (spanL_any (lo + n) (hi + n) W0).mono ?_
  rintro e X ⟨rfl, hX⟩
  have hs := hs.below hX hl
  obtain ⟨x0, q0, z0⟩ := hs.get 0 (by omega)
  obtain ⟨x1, q1, z1⟩ := hs.get 1 (by omega)
  have hB := BT hB hX
  clear b0 b1 hX
  have hfin := BC (BC hB (w.heap.size + 1) 0 (by omega) (.int .i64 (lo + n))) (w.heap.size + 1) 1 (by omega) (.int .i64 (hi + n))
  go_wp2_with fail
  exact bodyPost_ret (v := .agg #[.int .i64 (lo + n), .int .i64 (hi + n)]) (by simp [results, Try.results32, go_sem, q0, q1]) rfl ⟨rfl, hfin⟩
/-- The first k stars are moved. -/
def movTo (b t : Int) (ss : List St) : Nat → List St
  | 0 => ss
  | k + 1 => (movTo b t ss k).set k (movS b t (ss.getD k default))
theorem movTo_len (b t : Int) (ss : List St) : ∀ k, (movTo b t ss k).length = ss.length
  | 0 => rfl
  | k + 1 => by rw [movTo, List.length_set, movTo_len b t ss k]
theorem movTo_get (b t : Int) (ss : List St) : ∀ k i, i < ss.length → (movTo b t ss k).getD i default = if i < k then movS b t (ss.getD i default) else ss.getD i default
  | 0, i, _ => by rw [movTo, if_neg (by omega)]
  | k + 1, i, hi => by
    have ih := movTo_get b t ss k i hi
    have hl := movTo_len b t ss k
    rw [movTo]
    by_cases he : i = k
    · subst he
      rw [if_pos (by omega)]
      simp [List.getD, hl, hi]
    · have : ((movTo b t ss k).set k (movS b t (ss.getD k default))).getD i default = (movTo b t ss k).getD i default := by
        rw [List.getD_eq_getElem?_getD, List.getD_eq_getElem?_getD, List.getElem?_set_ne (by omega)]
        try rfl
      rw [this, ih]
      by_cases h : i < k
      · rw [if_pos h, if_pos (by omega)]
      · rw [if_neg h, if_neg (by omega)]
theorem movTo_all (b t : Int) (ss : List St) : movTo b t ss ss.length = ss.map (movS b t) := by
  apply List.ext_getElem (by rw [movTo_len, List.length_map])
  intro i h1 h2
  have hi : i < ss.length := by rw [movTo_len] at h1; exact h1
  have a := movTo_get b t ss ss.length i hi
  rw [if_pos hi, ← mov_get] at a
  rw [List.getD_eq_getElem?_getD, List.getD_eq_getElem?_getD, List.getElem?_eq_getElem h1, List.getElem?_eq_getElem h2] at a
  exact a
theorem mov_row (b t : Int) {ss : List St} {k : Nat} (hk : k < ss.length) (hs : (ss.getD k default).k = true) : (((((movTo b t ss k).flatMap starC).set (k * 9 + 5) (.int .i64 ((ss.getD k default).e0 + b))).set (k * 9 + 5 + 1) (.int .i64 ((ss.getD k default).e1 + b))).set (k * 9 + 7) (.int .i64 ((ss.getD k default).n0 + t))).set (k * 9 + 7 + 1) (.int .i64 ((ss.getD k default).n1 + t)) = (movTo b t ss (k + 1)).flatMap starC := by
  have hl := movTo_len b t ss k
  have hl1 := movTo_len b t ss (k + 1)
  have L : ((movTo b t ss k).flatMap starC).length = ss.length * 9 := by rw [flat_len9, hl]
  apply List.ext_getElem?
  intro j
  by_cases hj : j < ss.length * 9
  · obtain ⟨i, r, hr, rfl⟩ : ∃ i r, r < 9 ∧ j = i * 9 + r := ⟨j / 9, j % 9, by omega, by omega⟩
    have hi : i < ss.length := by omega
    rw [flat_get (ss := movTo b t ss (k + 1)) (by rw [hl1]; exact hi) hr, movTo_get b t ss (k + 1) i hi]
    by_cases he : i = k
    · subst he
      rw [if_pos (by omega)]
      have hf := fun r hr => flat_get (ss := movTo b t ss i) (i := i) (r := r) (by rw [hl]; exact hi) hr
      rw [movTo_get b t ss i i hi, if_neg (by omega)] at hf
      have l5 : i * 9 + 5 < ss.length * 9 := by omega
      have l6 : i * 9 + 5 + 1 < ss.length * 9 := by omega
      have l7 : i * 9 + 7 < ss.length * 9 := by omega
      have l8 : i * 9 + 7 + 1 < ss.length * 9 := by omega
      generalize ss.getD i default = s at *
      have hm : starC (movS b t s) = [.int .i64 s.x0, .int .i64 s.x1, .int .i64 s.y0, .int .i64 s.y1, .bool s.k, .int .i64 (s.e0 + b), .int .i64 (s.e1 + b), .int .i64 (s.n0 + t), .int .i64 (s.n1 + t)] := by
        unfold movS; rw [if_pos hs]; rfl
      rw [hm]
      have hc : r = 0 ∨ r = 1 ∨ r = 2 ∨ r = 3 ∨ r = 4 ∨ r = 5 ∨ r = 6 ∨ r = 7 ∨ r = 8 := by omega
      rcases hc with rfl | rfl | rfl | rfl | rfl | rfl | rfl | rfl | rfl
      all_goals
        simp only [List.getElem?_set, L, List.length_set, Nat.add_assoc, Nat.reduceAdd, Nat.add_left_cancel_iff, Nat.reduceEqDiff, if_true, if_false] at *
        first | rfl | (simp only [l5, if_true]; rfl) | (simp only [l6, if_true]; rfl) | (simp only [l7, if_true]; rfl) | (simp only [l8, if_true]; rfl) | (rw [hf _ (by omega)]; rfl)
    · have e : (if i < k + 1 then movS b t (ss.getD i default) else ss.getD i default) = (movTo b t ss k).getD i default := by
        rw [movTo_get b t ss k i hi]
        by_cases h : i < k
        · rw [if_pos h, if_pos (by omega)]
        · rw [if_neg h, if_neg (by omega)]
      rw [e, List.getElem?_set_ne (by omega), List.getElem?_set_ne (by omega), List.getElem?_set_ne (by omega), List.getElem?_set_ne (by omega), flat_get (by rw [hl]; exact hi) hr]
  · rw [List.getElem?_eq_none (by simp only [List.length_set, L]; omega), List.getElem?_eq_none (by rw [flat_len9, hl1]; omega)]
theorem mov_skip (b t : Int) {ss : List St} {k : Nat} (hk : k < ss.length) (hs : (ss.getD k default).k = false) : movTo b t ss (k + 1) = movTo b t ss k := by
  rw [movTo, mov_un hs]
  apply List.ext_getElem?
  intro i
  by_cases he : i = k
  · subst he
    have h := movTo_get b t ss i i hk
    rw [if_neg (by omega), List.getD_eq_getElem?_getD, List.getElem?_eq_getElem (by rw [movTo_len]; exact hk)] at h
    rw [List.getElem?_set_self (by rw [movTo_len]; exact hk), List.getElem?_eq_getElem (by rw [movTo_len]; exact hk)]
    exact congrArg some h.symm
  · rw [List.getElem?_set_ne (by omega)]
end Go.Proofs.Ytdkegkacpdkjgaa

namespace Go.Proofs.Ytdkegkacpdkjgaa
open Go.RowKit Go.Maps

set_option maxRecDepth 100000 in
set_option maxHeartbeats 16000000 in
theorem moved_walk (p : Pl) (ss : List St) (a b E N bd td : Int) (w : World) (hnl : ss.length = p.n) (hst : StarsIn w p.a ss) (hbd : -32768 ≤ bd ∧ bd ≤ 32767) (htd : -32768 ≤ td ∧ td ≤ 32767) :
    Calls Try.prog 8 #[p.val, .int .i64 a, .int .i64 b, .int .i64 E, .int .i64 N, .int .i16 bd, .int .i16 td] w (Ret (.bool true) w) := by
  unfold Pl.val
  obtain ⟨W0, hW0⟩ : ∃ X, w.alloc (.cells #[.int .i64 p.lo, .int .i64 p.hi, .slice p.a p.n p.cap] 29) = X := ⟨_, rfl⟩
  have hB0 : Below w.heap.size w W0 := by rw [← hW0]; exact newB _ _
  have hQ : BoxP W0 w.heap.size p := by rw [← hW0]; exact boxP_new w p _
  have hS := hst.below hB0
  have hgt : w.heap.size < W0.heap.size := by rw [← hW0]; simp
  clear hst
  obtain ⟨c0, c1, c2⟩ := id hQ
  go_enter Try.func8, Try.ntmps8
  by_cases h30 : 30 < (p.n : Int)
  · clear hS hnl
    go_wp2_with fail
    clear hW0
    refine (alive_any _).mono ?_
    rintro e wz ⟨rfl, hz⟩
    have hB := BT hB0 hz
    go_wp2
    go_ret
    exact ⟨rfl, hB⟩
  have hm : PlAt p ss W0 := ⟨hnl, by omega, hS⟩
  have HPL := plateR_any p ss W0 hm
  unfold Pl.val at HPL
  go_wp2_with fail
  clear hW0
  refine HPL.mono ?_
  rintro e w1 ⟨rfl, hx1⟩
  have hB1 := BT hB0 hx1
  have hQ1 := hQ.grown hx1
  have hm1 := hm.below hx1 (Nat.le_refl _)
  have hgt1 := Nat.lt_of_lt_of_le hgt hx1.size
  clear hB0 hQ hm hS hgt HPL hx1 c0 c1 c2
  cases hv : plB p ss
  · clear hm1 hQ1
    go_wp2_with fail
    refine (alive_any _).mono ?_
    rintro e wz ⟨rfl, hz⟩
    have hB := BT hB1 hz
    go_wp2
    go_ret
    exact ⟨rfl, hB⟩
  have hok := plOk hm1 hv
  have hn10 := hok.n10
  have hHid := Lib.hid hv
  have hOK := Lib.hid hok
  clear hv hok
  obtain ⟨c0, c1, c2⟩ := id hQ1
  go_upto_region 5 with fail
  obtain ⟨W2, hW2⟩ : ∃ X, w1.alloc (.cells #[.int .i64 p.lo, .int .i64 p.hi, .slice p.a p.n p.cap] 29) = X := ⟨_, rfl⟩
  have hx2 : Below w1.heap.size w1 W2 := by rw [← hW2]; exact newB _ _
  have hX2 : BoxP W2 w1.heap.size p := by rw [← hW2]; exact boxP_new w1 p _
  have hsx : Slots w1.heap.size 3 W2 := by
    rw [← hW2]; intro o ho
    have : o = 0 ∨ o = 1 ∨ o = 2 := by omega
    rcases this with rfl | rfl | rfl <;> simp [go_sem]
  have hgx : w1.heap.size < W2.heap.size := by rw [← hW2]; simp
  have hQ2 := hQ1.grown hx2
  have hm2 := hm1.below hx2 (Nat.le_refl _)
  have hx12 := hx2
  have hB2 := BT hB1 hx2
  rw [hW2]
  clear hW2 c0 c1 c2 hx2
  obtain ⟨XE, hXE⟩ : ∃ X, W2.alloc (.cells #[] 55) = X := ⟨_, rfl⟩
  have hr0 : XE.ownsRow W2.heap.size 55 9 (.slice (some ⟨W2.heap.size, 0, none⟩) 0 0) 0 [] := by rw [← hXE]; exact World.ownsRow_lit (base := W2.heap.size) (e := 55) (size := 9) W2 #[] 0 (Nat.le_refl _) (by unfold maxLen; omega) (by rfl)
  have hE2 : Below W2.heap.size W2 XE := by rw [← hXE]; exact newB _ _
  have hst1 : StarsIn XE p.a ss := (hm2.below hE2 (Nat.le_refl _)).lk
  obtain ⟨c0, c1, c2⟩ := id hQ2
  have c2' := cellB c2 hE2
  go_wp2_with (at_builtin; refine wpList_append_stars rfl (.tmp 44) (.tmp 46) rfl W2.heap.size (.slice (some ⟨W2.heap.size, 0, none⟩) 0 0) (by rfl) hr0 p.a p.n p.cap ss (by rfl) hst1 hnl (by omega) hE2.size ?_)
  intro v' w' hr hg
  have hBx : Below W2.heap.size W2 w' := hE2.grown hg hE2.size (fun k e => by simp [Value.ownBlock] at e; omega)
  clear hg hr0 hst1 hXE hE2 c0 c1 c2 c2'
  obtain ⟨sa, cap, rfl, hform⟩ : ∃ sa cap, v' = .slice sa p.n cap ∧ (p.n = 0 ∨ ∃ g, sa = some ⟨g, 0, none⟩) := by
    rcases hr.2 with ⟨h1, h2⟩ | ⟨g, cap, cur, h1, _⟩
    · exact ⟨none, 0, by rw [h1, h2], .inl h2⟩
    · exact ⟨some ⟨g, 0, none⟩, cap, h1, .inr ⟨g, rfl⟩⟩
  have hQ2 := hQ2.grown hBx
  have hX2 := hX2.grown hBx
  have hsx := hsx.below hBx hgx
  have hm2 := hm2.below hBx (Nat.le_refl _)
  have hB3 := BT hB2 hBx
  have hm2_below : Below w1.heap.size w1 w' := BT hx12 hBx
  obtain ⟨x0, x1, x2⟩ := id hX2
  obtain ⟨_, _, z2⟩ := hsx.get 2 (by omega)
  obtain ⟨X1, hX1⟩ : ∃ X, w'.setCell ⟨w1.heap.size, 2, none⟩ (.slice sa p.n cap) = X := ⟨_, rfl⟩
  have hr := ownsRow_setCell_below hr (a := ⟨w1.heap.size, 2, none⟩) (by show w1.heap.size < W2.heap.size; omega) (.slice sa p.n cap)
  have hset := hB3.setCell (p := ⟨w1.heap.size, 2, none⟩) hB1.size (.slice sa p.n cap)
  have hq1 : BoxP X1 w.heap.size p := by
    rw [← hX1]
    have hne : ∀ o, (⟨w1.heap.size, 2, none⟩ : Addr) ≠ ⟨w.heap.size, o, none⟩ := fun o he => by injection he with h1; omega
    exact ⟨by rw [World.cell?_setCell_other _ _ _ _ (hne 0)]; exact hQ2.c0, by rw [World.cell?_setCell_other _ _ _ _ (hne 1)]; exact hQ2.c1, by rw [World.cell?_setCell_other _ _ _ _ (hne 2)]; exact hQ2.c2⟩
  have hbx : BoxP X1 w1.heap.size ⟨p.lo, p.hi, sa, p.n, cap⟩ := by
    rw [← hX1]
    exact ⟨by simp [go_sem, x0], by simp [go_sem, x1], World.cell?_setCell_same _ _ _ x2⟩
  rw [hX1] at hr hset
  have hB14 : Below w1.heap.size w1 X1 := by
    rw [← hX1]
    exact ((Below.refl w1.heap.size w1).trans ((hm2_below).mono (Nat.le_refl _))).setCell (p := ⟨w1.heap.size, 2, none⟩) (Nat.le_refl _) _
  have hm4 := Lib.hid hm1
  obtain ⟨k0, k1, k2⟩ := id hbx
  dsimp only at k0 k1 k2
  go_wp2_with fail
  clear hX1 hQ2 hX2 hsx hm2 hB3 hm2_below x0 x1 x2 z2 hBx hx12 hB2 hB1 hQ1 hm1
  go_loopw [52] (fun i wr => ∃ k : Nat, k ≤ p.n ∧ i = .int .i64 k ∧ wr.ownsRow W2.heap.size 55 9 (.slice sa p.n cap) p.n ((movTo bd td ss k).flatMap starC) ∧ Below W2.heap.size X1 wr) (fun i _ => p.n - (intOf i).toNat)
  case atStart => exact ⟨0, by omega, rfl, hr, Below.refl _ _⟩
  case round =>
    clear hr
    obtain ⟨k, hk, rfl, hr, hV⟩ := hrel
    have hk0 : (0 : Int) ≤ (k : Int) := by omega
    by_cases hlt : k < p.n
    · have hki : (k : Int) < (p.n : Int) := by omega
      have hkl : k < ss.length := by omega
      obtain ⟨g, rfl⟩ : ∃ g, sa = some ⟨g, 0, none⟩ := by
        rcases hform with h | h
        · omega
        · exact h
      have hgl := hr.lt g rfl
      have hI : Hid (∀ Y, Below W2.heap.size X1 Y → Y.cell? ⟨w1.heap.size, 2, none⟩ = some (.slice (some ⟨g, 0, none⟩) p.n cap)) := fun Y hY => (hY.cell (p := ⟨_, _, none⟩) (by show w1.heap.size < _; omega)).trans k2
      have hxl : ((movTo bd td ss k).flatMap starC).length = p.n * 9 := by rw [flat_len9, movTo_len, hnl]
      have hcell : ∀ r u, (starC (ss.getD k default))[r]? = some u → wr.cell? ⟨g, k * 9 + r, none⟩ = some u := fun r u hu => by
        have hr9 : r < 9 := by have := (List.getElem?_eq_some_iff.1 hu).1; rwa [starC_len] at this
        rw [hr.cellAt (k * 9 + r) (by omega), flat_get (by rw [movTo_len]; exact hkl) hr9, movTo_get bd td ss k k hkl, if_neg (by omega), hu]
      have q4 := hcell 4 _ rfl
      have q5 := hcell 5 _ rfl
      have q6 : wr.cell? ⟨g, k * 9 + 5 + 1, none⟩ = _ := hcell 6 _ rfl
      have q7 := hcell 7 _ rfl
      have q8 : wr.cell? ⟨g, k * 9 + 7 + 1, none⟩ = _ := hcell 8 _ rfl
      have hkk := hI.out wr hV
      have hse := hOK.out.st k hkl false
      have hsn := hOK.out.st k hkl true
      have hrow := Lib.hid (mov_row bd td hkl)
      have hskip := Lib.hid (mov_skip bd td hkl)
      clear hcell k0 k1 k2
      generalize ss.getD k default = s at *
      cases hsk : s.k
      · rw [hsk] at q4
        have hskip2 := Lib.hid (hskip.out hsk)
        clear hskip hrow hsk hse hsn q5 q6 q7 q8
        go_wp2_with fail
        go_roundw
        case rel => exact ⟨k + 1, by omega, by go_num, by rw [hskip2.out]; exact hr, hV⟩
        case measure => simp [intOf]; omega
      · skip
        have e0 := hse.e hsk
        have e1 := hse.f hsk
        have e2 := hse.g hsk
        have n0 := hsn.e hsk
        have n1 := hsn.f hsk
        have n2 := hsn.g hsk
        have hO1 := Lib.hid (fun Y => onL_any s.e0 s.e1 bd hbd ⟨by show _ ≤ (s.sky false).1; omega, by show (s.sky false).1 ≤ _; omega⟩ ⟨by show _ ≤ (s.sky false).2; omega, by show (s.sky false).2 ≤ _; omega⟩ Y)
        have hO2 := Lib.hid (fun Y => onL_any s.n0 s.n1 td htd ⟨by show _ ≤ (s.sky true).1; omega, by show (s.sky true).1 ≤ _; omega⟩ ⟨by show _ ≤ (s.sky true).2; omega, by show (s.sky true).2 ≤ _; omega⟩ Y)
        have hrow2 := Lib.hid (hrow.out hsk)
        rw [hsk] at q4
        clear hskip hrow hsk hse hsn e0 e1 e2 n0 n1 n2
        go_wp2_with fail
        have hSS : Hid (∀ Y, Below wr.heap.size wr Y → Y.cell? ⟨w1.heap.size, 2, none⟩ = some (.slice (some ⟨g, 0, none⟩) p.n cap) ∧ Y.cell? ⟨g, k * 9 + 5, none⟩ = some (.int .i64 s.e0) ∧ Y.cell? ⟨g, k * 9 + 5 + 1, none⟩ = some (.int .i64 s.e1) ∧ Y.cell? ⟨g, k * 9 + 7, none⟩ = some (.int .i64 s.n0) ∧ Y.cell? ⟨g, k * 9 + 7 + 1, none⟩ = some (.int .i64 s.n1)) := fun Y hY => ⟨cellB hkk hY, cellB q5 hY, cellB q6 hY, cellB q7 hY, cellB q8 hY⟩
        have hbD : Below wr.heap.size wr wr.drew := Below.drew (Below.refl _ _)
        refine wp_region_treeF [6, 13] (.read 0 (.read 1 (.read 2 (.read 3 (.read 4 (.read 5 (.read 6 (.read 7 (.read 9 (.read 10 (.read 11 (.read 12 (.read 13 (.read 14 (.one 8 (.one 15 (.read 16 (.read 17 (.one 18 (.read 19 (.read 20 (.one 21 .leaf)))))))))))))))))))))) (fun Y => Y.cell? ⟨w1.heap.size, 2, none⟩ = some (.slice (some ⟨g, 0, none⟩) p.n cap) ∧ Y.cell? ⟨g, k * 9 + 5, none⟩ = some (.int .i64 s.e0) ∧ Y.cell? ⟨g, k * 9 + 5 + 1, none⟩ = some (.int .i64 s.e1) ∧ Y.cell? ⟨g, k * 9 + 7, none⟩ = some (.int .i64 s.n0) ∧ Y.cell? ⟨g, k * 9 + 7 + 1, none⟩ = some (.int .i64 s.n1)) (by kernel_rfl) (by kernel_rfl) (fun _ _ d _ _ h => by cases d <;> exact h) (hSS.out _ hbD) ?_
        generalize wr.drew = Y0 at *
        repeat (first | (refine trF_read rfl (by rfl) _ (fun w' hS => by (try replace hS := hS (by decide)); (try dsimp only at hS); go_simp; (try with_reducible rfl)) ?_; (try simp only [Act.put, List.setIfInBounds_toArray, List.set_cons_zero, List.set_cons_succ])) | (refine trF_skip rfl (by rfl) ?_; (try simp only [Act.put, List.setIfInBounds_toArray, List.set_cons_zero, List.set_cons_succ])))
        refine trF_step rfl (by rfl) (fun K hK => ?_)
        go_simp
        refine (hO1.out Y0).mono ?_
        rintro e Y1 ⟨rfl, hy1⟩
        have hb1 := BT hbD hy1
        refine hK _ _ (hSS.out _ hb1) ?_
        clear hK K hy1 hbD
        (try simp only [Act.put, List.setIfInBounds_toArray, List.set_cons_zero, List.set_cons_succ])
        repeat (first | (refine trF_read rfl (by rfl) _ (fun w' hS => by (try replace hS := hS (by decide)); (try dsimp only at hS); go_simp; (try with_reducible rfl)) ?_; (try simp only [Act.put, List.setIfInBounds_toArray, List.set_cons_zero, List.set_cons_succ])) | (refine trF_skip rfl (by rfl) ?_; (try simp only [Act.put, List.setIfInBounds_toArray, List.set_cons_zero, List.set_cons_succ])))
        refine trF_late rfl (by rfl) (by kernel_rfl) (fun K hK => ?_)
        go_simp
        refine (hO2.out Y1).mono ?_
        rintro e Y2 ⟨rfl, hy2⟩
        have hb2 := BT hb1 hy2
        refine hK _ _ ?_
        clear hK K hy2 hb1
        (try simp only [Act.put, List.setIfInBounds_toArray, List.set_cons_zero, List.set_cons_succ])
        repeat (first | (refine trF_read rfl (by rfl) _ (fun w' hS => by (try replace hS := hS (by decide)); (try dsimp only at hS); go_simp; (try with_reducible rfl)) ?_; (try simp only [Act.put, List.setIfInBounds_toArray, List.set_cons_zero, List.set_cons_succ])) | (refine trF_skip rfl (by rfl) ?_; (try simp only [Act.put, List.setIfInBounds_toArray, List.set_cons_zero, List.set_cons_succ])))
        have hr := hr.kept (gB0 hb2 none) (.inr (by simp [Value.ownBlock]))
        have hVY : Below W2.heap.size X1 Y2 := hV.trans (hb2.mono (by omega))
        have hr0 := hr
        have hw0 := hVY
        have L0 : ((movTo bd td ss k).flatMap starC).length = p.n * 9 := hxl
        clear hSS hr hVY q4 q5 q6 q7 q8 hkk
        refine trF_late rfl (by rfl) (by kernel_rfl) (fun K hK => ?_)
        obtain ⟨y5, q5⟩ := row_cell hr0 (k * 9 + 5) (by omega) L0
        obtain ⟨y5', q5'⟩ := row_cell hr0 (k * 9 + 5 + 1) (by omega) L0
        have z5 := hr0.frozenAt (k * 9 + 5)
        have z5' := hr0.frozenAt (k * 9 + 5 + 1)
        have hr1 := ((hr0.stored (k * 9 + 5) (.int .i64 (s.e0 + bd))).1.stored (k * 9 + 5 + 1) (.int .i64 (s.e1 + bd))).1
        have hw1 := (hw0.setCell (p := ⟨g, k * 9 + 5, none⟩) hgl.1 (.int .i64 (s.e0 + bd))).setCell (p := ⟨g, k * 9 + 5 + 1, none⟩) hgl.1 (.int .i64 (s.e1 + bd))
        go_simp
        refine hK _ _ ?_
        clear hK K q5 q5' z5 z5' hr0 hw0
        generalize (Y2.setCell ⟨g, k * 9 + 5, none⟩ (.int .i64 (s.e0 + bd))).setCell ⟨g, k * 9 + 5 + 1, none⟩ (.int .i64 (s.e1 + bd)) = Y3 at *
        (try simp only [Act.put, List.setIfInBounds_toArray, List.set_cons_zero, List.set_cons_succ])
        repeat (first | (refine trF_read rfl (by rfl) _ (fun w' hS => by (try replace hS := hS (by decide)); (try dsimp only at hS); go_simp; (try with_reducible rfl)) ?_; (try simp only [Act.put, List.setIfInBounds_toArray, List.set_cons_zero, List.set_cons_succ])) | (refine trF_skip rfl (by rfl) ?_; (try simp only [Act.put, List.setIfInBounds_toArray, List.set_cons_zero, List.set_cons_succ])))
        refine trF_late rfl (by rfl) (by kernel_rfl) (fun K hK => ?_)
        obtain ⟨y7, q7⟩ := row_cell hr1 (k * 9 + 7) (by omega) (by rw [List.length_set, List.length_set]; exact L0)
        obtain ⟨y7', q7'⟩ := row_cell hr1 (k * 9 + 7 + 1) (by omega) (by rw [List.length_set, List.length_set]; exact L0)
        have z7 := hr1.frozenAt (k * 9 + 7)
        have z7' := hr1.frozenAt (k * 9 + 7 + 1)
        have hr2 := ((hr1.stored (k * 9 + 7) (.int .i64 (s.n0 + td))).1.stored (k * 9 + 7 + 1) (.int .i64 (s.n1 + td))).1
        have hw2 := (hw1.setCell (p := ⟨g, k * 9 + 7, none⟩) hgl.1 (.int .i64 (s.n0 + td))).setCell (p := ⟨g, k * 9 + 7 + 1, none⟩) hgl.1 (.int .i64 (s.n1 + td))
        go_simp
        refine hK _ _ ?_
        clear hK K q7 q7' z7 z7' hr1 hw1
        generalize (Y3.setCell ⟨g, k * 9 + 7, none⟩ (.int .i64 (s.n0 + td))).setCell ⟨g, k * 9 + 7 + 1, none⟩ (.int .i64 (s.n1 + td)) = Y4 at *
        rw [hrow2.out] at hr2
        clear hrow2 hO1 hO2 hI
        first | show Exit.inBlock _ _ Exit.normal _ _ | show Exit.then _ _ Exit.normal _ _ | skip
        go_wp2_with fail
        go_roundw
        case rel => exact ⟨k + 1, by omega, by go_num, hr2, hw2⟩
        case measure => simp [intOf]; omega
    · obtain rfl : k = p.n := by omega
      have hall : movTo bd td ss p.n = ss.map (movS bd td) := by rw [← hnl]; exact movTo_all bd td ss
      rw [hall] at hr
      have hS3 : StarsIn wr sa (ss.map (movS bd td)) := by
        rcases hform with h | ⟨g, rfl⟩
        · exact .inl (List.eq_nil_of_length_eq_zero (by rw [List.length_map, hnl, h]))
        · have hl2 : (ss.map (movS bd td)).length = p.n := by rw [List.length_map, hnl]
          have hg := (hr.lt g rfl).2
          rw [← hl2] at hr
          exact row_stars hg (by simpa only [hl2] using hr)
      have hBw : Below w.heap.size w wr := hset.trans (hV.mono (by omega))
      have hw14 : Below w1.heap.size w1 wr := hB14.trans (hV.mono (by omega))
      have HT : Hid (Mv2 wr w.heap.size w1.heap.size p ⟨p.lo, p.hi, sa, p.n, cap⟩ ss (ss.map (movS bd td))) := ⟨hq1.under hV (by omega), hbx.under hV (by omega), hm4.out.below hw14 (Nat.le_refl _), ⟨by rw [List.length_map]; exact hnl, by show p.n ≤ 1000000000; omega, hS3⟩⟩
      have hB : Below wr.heap.size wr wr := Below.refl _ _
      clear hw14 hB14 hm4 hset hq1 hbx hV hS3 hr hall hform hlt k0 k1 k2 hk
      have HPX : Hid (∀ Y, Below wr.heap.size wr Y → Calls Try.prog 25 #[.agg #[.int .i64 p.lo, .int .i64 p.hi, .slice sa p.n cap]] Y (Ret (.bool (plB ⟨p.lo, p.hi, sa, p.n, cap⟩ (ss.map (movS bd td)))) Y)) := fun Y hY => plateR_any ⟨p.lo, p.hi, sa, p.n, cap⟩ (ss.map (movS bd td)) Y (HT.out.mx.below hY (Nat.le_refl _))
      obtain ⟨x0, x1, x2⟩ := id (HT.out.grown hB).bx
      (try dsimp only at x0 x1 x2)
      go_wp2_with fail
      clear x0 x1 x2
      refine (HPX.out wr hB).mono ?_
      rintro e Y1 ⟨rfl, hx⟩
      replace hB := BT hB hx
      clear hx
      cases hv' : plB ⟨p.lo, p.hi, sa, p.n, cap⟩ (ss.map (movS bd td))
      · go_wp2_with fail
        refine (alive_any _).mono ?_
        rintro e wz ⟨rfl, hz⟩
        have hB := BT hB hz
        go_wp2_with fail
        go_ret
        exact ⟨rfl, hBw.trans (hB.mono hBw.size)⟩
      have hMv : Mvd p ⟨p.lo, p.hi, sa, p.n, cap⟩ ss bd td := ⟨rfl, rfl, rfl, hnl, hHid.out, hv'⟩
      have hpo : plB p ss = true → PlOk p ss := fun _ => hOK.out
      obtain ⟨s0, s1, es, hs⟩ := repS_eq (scaleR_two p ss)
      obtain ⟨z0, z1, z2, z3, ez, y0, y1, y2, y3, hz, hy, hzy, hzb⟩ := rep_shift (δ := dlt bd td) (zero_four p ss) (zero_noZ p ss) (zero_bnd hpo) (by decide)
      obtain ⟨t0, t1, t2, t3, et, r0, r1, r2, r3, ht, hr, htr, htb⟩ := rep_shift (δ := dlt bd td) (star_four p ss a) (star_noZ p ss a) (star_bnd hpo a) (by decide)
      obtain ⟨u0, u1, u2, u3, eu, hu⟩ := repB_eq (apart_four p ss a b)
      obtain ⟨n0, en, hn⟩ := repI_eq (clash_one p ss)
      obtain ⟨f0, f1, f2, f3, ef, hf⟩ := repB_eq (find_four p ss E N)
      have HS1 : Hid (∀ Y, Below wr.heap.size wr Y → Calls Try.prog 14 #[.agg #[.int .i64 p.lo, .int .i64 p.hi, .slice p.a p.n p.cap]] Y (Ret (.tuple #[.agg #[.int .i64 s0, .int .i64 s1], .int .i64 es]) Y)) := fun Y hY => by
        have h0 := scale_any p ss Y (HT.out.mp.below hY (Nat.le_refl _))
        rw [hs] at h0
        exact h0
      have HSx : Hid (∀ Y, Below wr.heap.size wr Y → Calls Try.prog 14 #[.agg #[.int .i64 p.lo, .int .i64 p.hi, .slice sa p.n cap]] Y (Ret (.tuple #[.agg #[.int .i64 s0, .int .i64 s1], .int .i64 es]) Y)) := fun Y hY => by
        have h0 := scale_any (⟨p.lo, p.hi, sa, p.n, cap⟩ : Pl) (ss.map (movS bd td)) Y (HT.out.mx.below hY (Nat.le_refl _))
        rw [mvd_scale hMv, hs] at h0
        exact h0
      have HZ1 : Hid (∀ Y, Below wr.heap.size wr Y → Calls Try.prog 21 #[.agg #[.int .i64 p.lo, .int .i64 p.hi, .slice p.a p.n p.cap]] Y (Ret (.tuple #[.agg #[.int .i64 z0, .int .i64 z1], .agg #[.int .i64 z2, .int .i64 z3], .int .i64 ez]) Y)) := fun Y hY => by
        have h0 := zero_any p ss Y (HT.out.mp.below hY (Nat.le_refl _))
        rw [hz] at h0
        exact h0
      have HZx : Hid (∀ Y, Below wr.heap.size wr Y → Calls Try.prog 21 #[.agg #[.int .i64 p.lo, .int .i64 p.hi, .slice sa p.n cap]] Y (Ret (.tuple #[.agg #[.int .i64 y0, .int .i64 y1], .agg #[.int .i64 y2, .int .i64 y3], .int .i64 ez]) Y)) := fun Y hY => by
        have h0 := zero_any (⟨p.lo, p.hi, sa, p.n, cap⟩ : Pl) (ss.map (movS bd td)) Y (HT.out.mx.below hY (Nat.le_refl _))
        rw [mvd_zero hMv, hy] at h0
        exact h0
      have HT1 : Hid (∀ Y, Below wr.heap.size wr Y → Calls Try.prog 10 #[.agg #[.int .i64 p.lo, .int .i64 p.hi, .slice p.a p.n p.cap], .int .i64 a] Y (Ret (.tuple #[.agg #[.int .i64 t0, .int .i64 t1], .agg #[.int .i64 t2, .int .i64 t3], .int .i64 et]) Y)) := fun Y hY => by
        have h0 := star_any a p ss Y (HT.out.mp.below hY (Nat.le_refl _))
        rw [ht] at h0
        exact h0
      have HTx : Hid (∀ Y, Below wr.heap.size wr Y → Calls Try.prog 10 #[.agg #[.int .i64 p.lo, .int .i64 p.hi, .slice sa p.n cap], .int .i64 a] Y (Ret (.tuple #[.agg #[.int .i64 r0, .int .i64 r1], .agg #[.int .i64 r2, .int .i64 r3], .int .i64 et]) Y)) := fun Y hY => by
        have h0 := star_any a (⟨p.lo, p.hi, sa, p.n, cap⟩ : Pl) (ss.map (movS bd td)) Y (HT.out.mx.below hY (Nat.le_refl _))
        rw [mvd_star hMv, hr] at h0
        exact h0
      have HA1 : Hid (∀ Y, Below wr.heap.size wr Y → Calls Try.prog 24 #[.agg #[.int .i64 p.lo, .int .i64 p.hi, .slice p.a p.n p.cap], .int .i64 a, .int .i64 b] Y (Ret (.tuple #[.agg #[.int .i64 u0, .int .i64 u1], .agg #[.int .i64 u2, .int .i64 u3], .int .i64 eu]) Y)) := fun Y hY => by
        have h0 := apart2_any a b p ss Y (HT.out.mp.below hY (Nat.le_refl _))
        rw [hu] at h0
        exact h0
      have HAx : Hid (∀ Y, Below wr.heap.size wr Y → Calls Try.prog 24 #[.agg #[.int .i64 p.lo, .int .i64 p.hi, .slice sa p.n cap], .int .i64 a, .int .i64 b] Y (Ret (.tuple #[.agg #[.int .i64 u0, .int .i64 u1], .agg #[.int .i64 u2, .int .i64 u3], .int .i64 eu]) Y)) := fun Y hY => by
        have h0 := apart2_any a b (⟨p.lo, p.hi, sa, p.n, cap⟩ : Pl) (ss.map (movS bd td)) Y (HT.out.mx.below hY (Nat.le_refl _))
        rw [mvd_apart hMv, hu] at h0
        exact h0
      have HC1 : Hid (∀ Y, Below wr.heap.size wr Y → Calls Try.prog 12 #[.agg #[.int .i64 p.lo, .int .i64 p.hi, .slice p.a p.n p.cap]] Y (Ret (.tuple #[.int .i64 n0, .int .i64 en]) Y)) := fun Y hY => by
        have h0 := clash_any p ss Y (HT.out.mp.below hY (Nat.le_refl _))
        rw [hn] at h0
        exact h0
      have HCx : Hid (∀ Y, Below wr.heap.size wr Y → Calls Try.prog 12 #[.agg #[.int .i64 p.lo, .int .i64 p.hi, .slice sa p.n cap]] Y (Ret (.tuple #[.int .i64 n0, .int .i64 en]) Y)) := fun Y hY => by
        have h0 := clash_any (⟨p.lo, p.hi, sa, p.n, cap⟩ : Pl) (ss.map (movS bd td)) Y (HT.out.mx.below hY (Nat.le_refl _))
        rw [mvd_clash hMv, hn] at h0
        exact h0
      have HF1 : Hid (∀ Y, Below wr.heap.size wr Y → Calls Try.prog 23 #[.agg #[.int .i64 p.lo, .int .i64 p.hi, .slice p.a p.n p.cap], .int .i64 E, .int .i64 N] Y (Ret (.tuple #[.agg #[.int .i64 f0, .int .i64 f1], .agg #[.int .i64 f2, .int .i64 f3], .int .i64 ef]) Y)) := fun Y hY => by
        have h0 := find2_any E N p ss Y (HT.out.mp.below hY (Nat.le_refl _))
        rw [hf] at h0
        exact h0
      have HFF := Lib.hid (find_facts hMv E N hf)
      have HFX : Hid (∀ e n Y, Below wr.heap.size wr Y → Calls Try.prog 23 #[.agg #[.int .i64 p.lo, .int .i64 p.hi, .slice sa p.n cap], .int .i64 e, .int .i64 n] Y (Ret (repB (findR ⟨p.lo, p.hi, sa, p.n, cap⟩ (ss.map (movS bd td)) e n)) Y)) := fun e n Y hY => find2_any e n ⟨p.lo, p.hi, sa, p.n, cap⟩ (ss.map (movS bd td)) Y (HT.out.mx.below hY (Nat.le_refl _))
      clear hs hz hy ht hr hu hn hf hMv hpo HPX hHid hOK hv'
      obtain ⟨p0, p1, p2⟩ := id (HT.out.grown hB).bp
      (try dsimp only at p0 p1 p2)
      go_wp2_with fail
      clear p0 p1 p2
      refine (HS1.out Y1 hB).mono ?_
      rintro e Y2 ⟨rfl, hx⟩
      replace hB := BT hB hx
      clear hx
      obtain ⟨Z2, hZ⟩ : ∃ Z, Y2.alloc (.cells #[.int .i64 s0, .int .i64 s1] 23) = Z := ⟨_, rfl⟩
      have hx : Below Y2.heap.size Y2 Z2 := by rw [← hZ]; exact newB _ _
      have qs : Worst Z2 Y2.heap.size s0 s1 := by rw [← hZ]; exact worst_new _ _ _ _
      have hge2 : wr.heap.size ≤ Y2.heap.size := hB.size
      replace hB := BT hB hx
      clear hx
      obtain ⟨x0, x1, x2⟩ := id (HT.out.grown hB).bx
      (try dsimp only at x0 x1 x2)
      go_wp2_with fail
      clear hZ
      generalize Y2.heap.size = B2 at *
      clear x0 x1 x2
      refine (HSx.out Z2 hB).mono ?_
      rintro e Y3 ⟨rfl, hx⟩
      replace qs := qs.grown hx
      replace hB := BT hB hx
      clear hx
      obtain ⟨Z3, hZ⟩ : ∃ Z, Y3.alloc (.cells #[.int .i64 s0, .int .i64 s1] 23) = Z := ⟨_, rfl⟩
      have hx : Below Y3.heap.size Y3 Z3 := by rw [← hZ]; exact newB _ _
      have qt : Worst Z3 Y3.heap.size s0 s1 := by rw [← hZ]; exact worst_new _ _ _ _
      have hge3 : wr.heap.size ≤ Y3.heap.size := hB.size
      have hlt3_B2 : B2 < Y3.heap.size := qs.lt
      replace qs := qs.grown hx
      replace hB := BT hB hx
      clear hx
      obtain ⟨p0, p1, p2⟩ := id (HT.out.grown hB).bp
      (try dsimp only at p0 p1 p2)
      go_wp2_with fail
      clear hZ
      generalize Y3.heap.size = B3 at *
      clear p0 p1 p2
      refine (HZ1.out Z3 hB).mono ?_
      rintro e Y4 ⟨rfl, hx⟩
      replace qs := qs.grown hx
      replace qt := qt.grown hx
      replace hB := BT hB hx
      clear hx
      obtain ⟨Z4, hZ⟩ : ∃ Z, (Y4.alloc (.cells #[.int .i64 z0, .int .i64 z1] 23)).alloc (.cells #[.int .i64 z2, .int .i64 z3] 23) = Z := ⟨_, rfl⟩
      have hx : Below Y4.heap.size Y4 Z4 := by rw [← hZ]; exact BA (newB _ _) _
      have qc : Worst Z4 Y4.heap.size z0 z1 := by rw [← hZ]; exact (worst_new _ _ _ _).grown (newB _ _)
      have qd : Worst Z4 (Y4.heap.size + 1) z2 z3 := by rw [← hZ]; have := worst_new (Y4.alloc (.cells #[.int .i64 z0, .int .i64 z1] 23)) z2 z3 23; rw [World.size_alloc] at this; exact this
      have hge4 : wr.heap.size ≤ Y4.heap.size := hB.size
      have hlt4_B2 : B2 < Y4.heap.size := qs.lt
      have hlt4_B3 : B3 < Y4.heap.size := qt.lt
      replace qs := qs.grown hx
      replace qt := qt.grown hx
      replace hB := BT hB hx
      clear hx
      obtain ⟨x0, x1, x2⟩ := id (HT.out.grown hB).bx
      (try dsimp only at x0 x1 x2)
      go_wp2_with fail
      clear hZ
      generalize Y4.heap.size = B4 at *
      clear x0 x1 x2
      refine (HZx.out Z4 hB).mono ?_
      rintro e Y5 ⟨rfl, hx⟩
      replace qs := qs.grown hx
      replace qt := qt.grown hx
      replace qc := qc.grown hx
      replace qd := qd.grown hx
      replace hB := BT hB hx
      clear hx
      obtain ⟨Z5, hZ⟩ : ∃ Z, (Y5.alloc (.cells #[.int .i64 y0, .int .i64 y1] 23)).alloc (.cells #[.int .i64 y2, .int .i64 y3] 23) = Z := ⟨_, rfl⟩
      have hx : Below Y5.heap.size Y5 Z5 := by rw [← hZ]; exact BA (newB _ _) _
      have qu : Worst Z5 Y5.heap.size y0 y1 := by rw [← hZ]; exact (worst_new _ _ _ _).grown (newB _ _)
      have qv : Worst Z5 (Y5.heap.size + 1) y2 y3 := by rw [← hZ]; have := worst_new (Y5.alloc (.cells #[.int .i64 y0, .int .i64 y1] 23)) y2 y3 23; rw [World.size_alloc] at this; exact this
      have hge5 : wr.heap.size ≤ Y5.heap.size := hB.size
      have hlt5_B2 : B2 < Y5.heap.size := qs.lt
      have hlt5_B3 : B3 < Y5.heap.size := qt.lt
      have hlt5_B4 : B4 + 1 < Y5.heap.size := qd.lt
      replace qs := qs.grown hx
      replace qt := qt.grown hx
      replace qc := qc.grown hx
      replace qd := qd.grown hx
      replace hB := BT hB hx
      clear hx
      go_wp2_with fail
      clear hZ
      generalize Y5.heap.size = B5 at *
      have hzy2 : ez = 0 → y0 = z0 + bd ∧ y1 = z1 + bd ∧ y2 = z2 + td ∧ y3 = z3 + td := hzy
      have hry2 : et = 0 → r0 = t0 + bd ∧ r1 = t1 + bd ∧ r2 = t2 + td ∧ r3 = t3 + td := htr
      clear hzy htr
      go_cut [142] from 110 to 142 (fun ac X => ac = .bool false ∧ Below Z5.heap.size Z5 X)
      case first =>
        by_cases hez : ez = 0
        · subst hez
          obtain ⟨rfl, rfl, rfl, rfl⟩ := hzy2 rfl
          clear hzy2
          have hI : Hid (∀ V, Below Z5.heap.size Z5 V → V.cell? ⟨B2, 0, none⟩ = some (.int .i64 s0) ∧ V.cell? ⟨B2, 1, none⟩ = some (.int .i64 s1) ∧ V.cell? ⟨B3, 0, none⟩ = some (.int .i64 s0) ∧ V.cell? ⟨B3, 1, none⟩ = some (.int .i64 s1) ∧ V.cell? ⟨B4, 0, none⟩ = some (.int .i64 z0) ∧ V.cell? ⟨B4, 1, none⟩ = some (.int .i64 z1) ∧ V.cell? ⟨B4 + 1, 0, none⟩ = some (.int .i64 z2) ∧ V.cell? ⟨B4 + 1, 1, none⟩ = some (.int .i64 z3) ∧ V.cell? ⟨B5, 0, none⟩ = some (.int .i64 (z0 + bd)) ∧ V.cell? ⟨B5, 1, none⟩ = some (.int .i64 (z1 + bd)) ∧ V.cell? ⟨B5 + 1, 0, none⟩ = some (.int .i64 (z2 + td)) ∧ V.cell? ⟨B5 + 1, 1, none⟩ = some (.int .i64 (z3 + td))) := fun V hV => ⟨(qs.grown hV).c0, (qs.grown hV).c1, (qt.grown hV).c0, (qt.grown hV).c1, (qc.grown hV).c0, (qc.grown hV).c1, (qd.grown hV).c0, (qd.grown hV).c1, (qu.grown hV).c0, (qu.grown hV).c1, (qv.grown hV).c0, (qv.grown hV).c1⟩
          have hb0 : Below Z5.heap.size Z5 Z5.drew := Below.drew (Below.refl _ Z5)
          refine wp_region_seq [(0, true), (1, true), (2, true), (3, true), (4, true), (5, true), (6, true), (7, true), (8, true), (9, true), (10, true), (11, true), (12, true), (13, true), (14, true), (15, true), (16, true), (17, true), (18, true), (19, true), (20, true), (21, false), (22, true), (23, true), (24, true), (25, true), (26, true), (27, true), (28, false), (29, true), (30, true), (31, true), (32, true)] (fun V => V.cell? ⟨B2, 0, none⟩ = some (.int .i64 s0) ∧ V.cell? ⟨B2, 1, none⟩ = some (.int .i64 s1) ∧ V.cell? ⟨B3, 0, none⟩ = some (.int .i64 s0) ∧ V.cell? ⟨B3, 1, none⟩ = some (.int .i64 s1) ∧ V.cell? ⟨B4, 0, none⟩ = some (.int .i64 z0) ∧ V.cell? ⟨B4, 1, none⟩ = some (.int .i64 z1) ∧ V.cell? ⟨B4 + 1, 0, none⟩ = some (.int .i64 z2) ∧ V.cell? ⟨B4 + 1, 1, none⟩ = some (.int .i64 z3) ∧ V.cell? ⟨B5, 0, none⟩ = some (.int .i64 (z0 + bd)) ∧ V.cell? ⟨B5, 1, none⟩ = some (.int .i64 (z1 + bd)) ∧ V.cell? ⟨B5 + 1, 0, none⟩ = some (.int .i64 (z2 + td)) ∧ V.cell? ⟨B5 + 1, 1, none⟩ = some (.int .i64 (z3 + td))) (by kernel_rfl) (by kernel_rfl) (fun _ _ d _ _ h => by cases d <;> exact h) (hI.out _ hb0) ?_
          repeat (first | (refine seq_read rfl (by rfl) _ (fun w' hS => by (try dsimp only at hS); go_simp; (try with_reducible rfl)) ?_; (try simp only [Act.put, List.setIfInBounds_toArray, List.set_cons_zero, List.set_cons_succ])) | (refine seq_skip rfl (by rfl) ?_; (try simp only [Act.put, List.setIfInBounds_toArray, List.set_cons_zero, List.set_cons_succ])))
          refine seq_do rfl (by rfl) (fun K hK => ?_)
          go_simp
          refine (onL_any z0 z1 bd hbd (by omega) (by omega) Z5.drew).mono ?_
          rintro e L6_0 ⟨rfl, hL6_0⟩
          replace hL6_0 := BT hb0 hL6_0
          refine hK _ _ (hI.out _ hL6_0) ?_
          clear hK K
          (try simp only [Act.put, List.setIfInBounds_toArray, List.set_cons_zero, List.set_cons_succ])
          repeat (first | (refine seq_read rfl (by rfl) _ (fun w' hS => by (try dsimp only at hS); go_simp; (try with_reducible rfl)) ?_; (try simp only [Act.put, List.setIfInBounds_toArray, List.set_cons_zero, List.set_cons_succ])) | (refine seq_skip rfl (by rfl) ?_; (try simp only [Act.put, List.setIfInBounds_toArray, List.set_cons_zero, List.set_cons_succ])))
          refine seq_do rfl (by rfl) (fun K hK => ?_)
          go_simp
          refine (onL_any z2 z3 td htd (by omega) (by omega) L6_0).mono ?_
          rintro e L6_1 ⟨rfl, hL6_1⟩
          replace hL6_1 := BT hL6_0 hL6_1
          refine hK _ _ (hI.out _ hL6_1) ?_
          clear hK K
          (try simp only [Act.put, List.setIfInBounds_toArray, List.set_cons_zero, List.set_cons_succ])
          repeat (first | (refine seq_read rfl (by rfl) _ (fun w' hS => by (try dsimp only at hS); go_simp; (try with_reducible rfl)) ?_; (try simp only [Act.put, List.setIfInBounds_toArray, List.set_cons_zero, List.set_cons_succ])) | (refine seq_skip rfl (by rfl) ?_; (try simp only [Act.put, List.setIfInBounds_toArray, List.set_cons_zero, List.set_cons_succ])))
          apply seq_end
          first | show Exit.inBlock _ _ Exit.normal _ _ | show Exit.then _ _ Exit.normal _ _ | skip
          go_wp2_with fail
          go_meet
          exact ⟨rfl, hL6_1⟩
        have hez2 : (ez == 0) = false := by simpa using hez
        clear hzy2
        have hI : Hid (∀ V, Below Z5.heap.size Z5 V → V.cell? ⟨B2, 0, none⟩ = some (.int .i64 s0) ∧ V.cell? ⟨B2, 1, none⟩ = some (.int .i64 s1) ∧ V.cell? ⟨B3, 0, none⟩ = some (.int .i64 s0) ∧ V.cell? ⟨B3, 1, none⟩ = some (.int .i64 s1) ∧ V.cell? ⟨B4, 0, none⟩ = some (.int .i64 z0) ∧ V.cell? ⟨B4, 1, none⟩ = some (.int .i64 z1) ∧ V.cell? ⟨B4 + 1, 0, none⟩ = some (.int .i64 z2) ∧ V.cell? ⟨B4 + 1, 1, none⟩ = some (.int .i64 z3) ∧ V.cell? ⟨B5, 0, none⟩ = some (.int .i64 y0) ∧ V.cell? ⟨B5, 1, none⟩ = some (.int .i64 y1) ∧ V.cell? ⟨B5 + 1, 0, none⟩ = some (.int .i64 y2) ∧ V.cell? ⟨B5 + 1, 1, none⟩ = some (.int .i64 y3)) := fun V hV => ⟨(qs.grown hV).c0, (qs.grown hV).c1, (qt.grown hV).c0, (qt.grown hV).c1, (qc.grown hV).c0, (qc.grown hV).c1, (qd.grown hV).c0, (qd.grown hV).c1, (qu.grown hV).c0, (qu.grown hV).c1, (qv.grown hV).c0, (qv.grown hV).c1⟩
        have hb0 : Below Z5.heap.size Z5 Z5.drew := Below.drew (Below.refl _ Z5)
        refine wp_region_seq [(0, true), (1, true), (2, true), (3, true), (4, true), (5, true), (6, true), (7, true), (8, true), (9, true), (10, true), (11, true), (12, true), (13, true), (14, true), (15, true), (16, true), (17, true), (18, true), (19, true), (20, true), (21, false), (22, true), (23, true), (24, true), (25, true), (26, true), (27, true), (28, false), (29, true), (30, true), (31, true), (32, true)] (fun V => V.cell? ⟨B2, 0, none⟩ = some (.int .i64 s0) ∧ V.cell? ⟨B2, 1, none⟩ = some (.int .i64 s1) ∧ V.cell? ⟨B3, 0, none⟩ = some (.int .i64 s0) ∧ V.cell? ⟨B3, 1, none⟩ = some (.int .i64 s1) ∧ V.cell? ⟨B4, 0, none⟩ = some (.int .i64 z0) ∧ V.cell? ⟨B4, 1, none⟩ = some (.int .i64 z1) ∧ V.cell? ⟨B4 + 1, 0, none⟩ = some (.int .i64 z2) ∧ V.cell? ⟨B4 + 1, 1, none⟩ = some (.int .i64 z3) ∧ V.cell? ⟨B5, 0, none⟩ = some (.int .i64 y0) ∧ V.cell? ⟨B5, 1, none⟩ = some (.int .i64 y1) ∧ V.cell? ⟨B5 + 1, 0, none⟩ = some (.int .i64 y2) ∧ V.cell? ⟨B5 + 1, 1, none⟩ = some (.int .i64 y3)) (by kernel_rfl) (by kernel_rfl) (fun _ _ d _ _ h => by cases d <;> exact h) (hI.out _ hb0) ?_
        repeat (first | (refine seq_read rfl (by rfl) _ (fun w' hS => by (try dsimp only at hS); go_simp; (try with_reducible rfl)) ?_; (try simp only [Act.put, List.setIfInBounds_toArray, List.set_cons_zero, List.set_cons_succ])) | (refine seq_skip rfl (by rfl) ?_; (try simp only [Act.put, List.setIfInBounds_toArray, List.set_cons_zero, List.set_cons_succ])))
        apply seq_end
        first | show Exit.inBlock _ _ Exit.normal _ _ | show Exit.then _ _ Exit.normal _ _ | skip
        go_wp2_with fail
        go_meet
        exact ⟨rfl, hb0⟩
      case rest =>
      obtain ⟨rfl, hbc⟩ := hcut
      obtain ⟨R6, rfl⟩ : ∃ R6 : World, R6 = wc := ⟨_, rfl⟩
      replace qs := qs.grown hbc
      replace qt := qt.grown hbc
      replace qc := qc.grown hbc
      replace qd := qd.grown hbc
      replace qu := qu.grown hbc
      replace qv := qv.grown hbc
      replace hB := BT hB hbc
      clear hbc
      clear hzy2
      clear qs
      clear qt
      obtain ⟨p0, p1, p2⟩ := id (HT.out.grown hB).bp
      (try dsimp only at p0 p1 p2)
      go_wp2_with fail
      clear p0 p1 p2
      refine (HT1.out R6 hB).mono ?_
      rintro e Y7 ⟨rfl, hx⟩
      replace qc := qc.grown hx
      replace qd := qd.grown hx
      replace qu := qu.grown hx
      replace qv := qv.grown hx
      replace hB := BT hB hx
      clear hx
      obtain ⟨Z7, hZ⟩ : ∃ Z, (((Y7.setCell ⟨B4, 0, none⟩ (.int .i64 t0)).setCell ⟨B4, 1, none⟩ (.int .i64 t1)).setCell ⟨B4 + 1, 0, none⟩ (.int .i64 t2)).setCell ⟨B4 + 1, 1, none⟩ (.int .i64 t3) = Z := ⟨_, rfl⟩
      obtain ⟨qcn, qdn, hoth, hbel⟩ := set_two qc qd (by omega) t0 t1 t2 t3 hZ
      replace hB := hbel _ _ (by omega) (by omega) hB
      replace qu := hoth _ _ _ qu (by omega) (by omega)
      replace qv := hoth _ _ _ qv (by omega) (by omega)
      clear hoth hbel
      obtain ⟨cp0, cp1, cp2, cp3⟩ := id qc
      obtain ⟨dp0, dp1, dp2, dp3⟩ := id qd
      obtain ⟨x0, x1, x2⟩ := id (HT.out.grown hB).bx
      (try dsimp only at x0 x1 x2)
      go_wp2_with fail
      clear hZ cp0 cp1 cp2 cp3 dp0 dp1 dp2 dp3
      clear qc
      have qc := qcn
      clear qcn
      clear qd
      have qd := qdn
      clear qdn
      clear x0 x1 x2
      refine (HTx.out Z7 hB).mono ?_
      rintro e Y8 ⟨rfl, hx⟩
      replace qc := qc.grown hx
      replace qd := qd.grown hx
      replace qu := qu.grown hx
      replace qv := qv.grown hx
      replace hB := BT hB hx
      clear hx
      obtain ⟨Z8, hZ⟩ : ∃ Z, (((Y8.setCell ⟨B5, 0, none⟩ (.int .i64 r0)).setCell ⟨B5, 1, none⟩ (.int .i64 r1)).setCell ⟨B5 + 1, 0, none⟩ (.int .i64 r2)).setCell ⟨B5 + 1, 1, none⟩ (.int .i64 r3) = Z := ⟨_, rfl⟩
      obtain ⟨qun, qvn, hoth, hbel⟩ := set_two qu qv (by omega) r0 r1 r2 r3 hZ
      replace hB := hbel _ _ (by omega) (by omega) hB
      replace qc := hoth _ _ _ qc (by omega) (by omega)
      replace qd := hoth _ _ _ qd (by omega) (by omega)
      clear hoth hbel
      obtain ⟨cp0, cp1, cp2, cp3⟩ := id qu
      obtain ⟨dp0, dp1, dp2, dp3⟩ := id qv
      go_wp2_with fail
      clear hZ cp0 cp1 cp2 cp3 dp0 dp1 dp2 dp3
      clear qu
      have qu := qun
      clear qun
      clear qv
      have qv := qvn
      clear qvn
      go_cut [179] from 157 to 179 (fun ac X => ac = .bool false ∧ Below Z8.heap.size Z8 X)
      case first =>
        by_cases het : et = 0
        · subst het
          obtain ⟨rfl, rfl, rfl, rfl⟩ := hry2 rfl
          clear hry2
          have hI : Hid (∀ V, Below Z8.heap.size Z8 V → V.cell? ⟨B4, 0, none⟩ = some (.int .i64 t0) ∧ V.cell? ⟨B4, 1, none⟩ = some (.int .i64 t1) ∧ V.cell? ⟨B4 + 1, 0, none⟩ = some (.int .i64 t2) ∧ V.cell? ⟨B4 + 1, 1, none⟩ = some (.int .i64 t3) ∧ V.cell? ⟨B5, 0, none⟩ = some (.int .i64 (t0 + bd)) ∧ V.cell? ⟨B5, 1, none⟩ = some (.int .i64 (t1 + bd)) ∧ V.cell? ⟨B5 + 1, 0, none⟩ = some (.int .i64 (t2 + td)) ∧ V.cell? ⟨B5 + 1, 1, none⟩ = some (.int .i64 (t3 + td))) := fun V hV => ⟨(qc.grown hV).c0, (qc.grown hV).c1, (qd.grown hV).c0, (qd.grown hV).c1, (qu.grown hV).c0, (qu.grown hV).c1, (qv.grown hV).c0, (qv.grown hV).c1⟩
          have hb0 : Below Z8.heap.size Z8 Z8.drew := Below.drew (Below.refl _ Z8)
          refine wp_region_seq [(0, true), (1, true), (2, true), (3, true), (4, true), (5, true), (6, true), (7, true), (8, true), (9, true), (10, true), (11, false), (12, true), (13, true), (14, true), (15, true), (16, true), (17, true), (18, false), (19, true), (20, true), (21, true), (22, true)] (fun V => V.cell? ⟨B4, 0, none⟩ = some (.int .i64 t0) ∧ V.cell? ⟨B4, 1, none⟩ = some (.int .i64 t1) ∧ V.cell? ⟨B4 + 1, 0, none⟩ = some (.int .i64 t2) ∧ V.cell? ⟨B4 + 1, 1, none⟩ = some (.int .i64 t3) ∧ V.cell? ⟨B5, 0, none⟩ = some (.int .i64 (t0 + bd)) ∧ V.cell? ⟨B5, 1, none⟩ = some (.int .i64 (t1 + bd)) ∧ V.cell? ⟨B5 + 1, 0, none⟩ = some (.int .i64 (t2 + td)) ∧ V.cell? ⟨B5 + 1, 1, none⟩ = some (.int .i64 (t3 + td))) (by kernel_rfl) (by kernel_rfl) (fun _ _ d _ _ h => by cases d <;> exact h) (hI.out _ hb0) ?_
          repeat (first | (refine seq_read rfl (by rfl) _ (fun w' hS => by (try dsimp only at hS); go_simp; (try with_reducible rfl)) ?_; (try simp only [Act.put, List.setIfInBounds_toArray, List.set_cons_zero, List.set_cons_succ])) | (refine seq_skip rfl (by rfl) ?_; (try simp only [Act.put, List.setIfInBounds_toArray, List.set_cons_zero, List.set_cons_succ])))
          refine seq_do rfl (by rfl) (fun K hK => ?_)
          go_simp
          refine (onL_any t0 t1 bd hbd (by omega) (by omega) Z8.drew).mono ?_
          rintro e L9_0 ⟨rfl, hL9_0⟩
          replace hL9_0 := BT hb0 hL9_0
          refine hK _ _ (hI.out _ hL9_0) ?_
          clear hK K
          (try simp only [Act.put, List.setIfInBounds_toArray, List.set_cons_zero, List.set_cons_succ])
          repeat (first | (refine seq_read rfl (by rfl) _ (fun w' hS => by (try dsimp only at hS); go_simp; (try with_reducible rfl)) ?_; (try simp only [Act.put, List.setIfInBounds_toArray, List.set_cons_zero, List.set_cons_succ])) | (refine seq_skip rfl (by rfl) ?_; (try simp only [Act.put, List.setIfInBounds_toArray, List.set_cons_zero, List.set_cons_succ])))
          refine seq_do rfl (by rfl) (fun K hK => ?_)
          go_simp
          refine (onL_any t2 t3 td htd (by omega) (by omega) L9_0).mono ?_
          rintro e L9_1 ⟨rfl, hL9_1⟩
          replace hL9_1 := BT hL9_0 hL9_1
          refine hK _ _ (hI.out _ hL9_1) ?_
          clear hK K
          (try simp only [Act.put, List.setIfInBounds_toArray, List.set_cons_zero, List.set_cons_succ])
          repeat (first | (refine seq_read rfl (by rfl) _ (fun w' hS => by (try dsimp only at hS); go_simp; (try with_reducible rfl)) ?_; (try simp only [Act.put, List.setIfInBounds_toArray, List.set_cons_zero, List.set_cons_succ])) | (refine seq_skip rfl (by rfl) ?_; (try simp only [Act.put, List.setIfInBounds_toArray, List.set_cons_zero, List.set_cons_succ])))
          apply seq_end
          first | show Exit.inBlock _ _ Exit.normal _ _ | show Exit.then _ _ Exit.normal _ _ | skip
          go_wp2_with fail
          go_meet
          exact ⟨rfl, hL9_1⟩
        have het2 : (et == 0) = false := by simpa using het
        clear hry2
        have hI : Hid (∀ V, Below Z8.heap.size Z8 V → V.cell? ⟨B4, 0, none⟩ = some (.int .i64 t0) ∧ V.cell? ⟨B4, 1, none⟩ = some (.int .i64 t1) ∧ V.cell? ⟨B4 + 1, 0, none⟩ = some (.int .i64 t2) ∧ V.cell? ⟨B4 + 1, 1, none⟩ = some (.int .i64 t3) ∧ V.cell? ⟨B5, 0, none⟩ = some (.int .i64 r0) ∧ V.cell? ⟨B5, 1, none⟩ = some (.int .i64 r1) ∧ V.cell? ⟨B5 + 1, 0, none⟩ = some (.int .i64 r2) ∧ V.cell? ⟨B5 + 1, 1, none⟩ = some (.int .i64 r3)) := fun V hV => ⟨(qc.grown hV).c0, (qc.grown hV).c1, (qd.grown hV).c0, (qd.grown hV).c1, (qu.grown hV).c0, (qu.grown hV).c1, (qv.grown hV).c0, (qv.grown hV).c1⟩
        have hb0 : Below Z8.heap.size Z8 Z8.drew := Below.drew (Below.refl _ Z8)
        refine wp_region_seq [(0, true), (1, true), (2, true), (3, true), (4, true), (5, true), (6, true), (7, true), (8, true), (9, true), (10, true), (11, false), (12, true), (13, true), (14, true), (15, true), (16, true), (17, true), (18, false), (19, true), (20, true), (21, true), (22, true)] (fun V => V.cell? ⟨B4, 0, none⟩ = some (.int .i64 t0) ∧ V.cell? ⟨B4, 1, none⟩ = some (.int .i64 t1) ∧ V.cell? ⟨B4 + 1, 0, none⟩ = some (.int .i64 t2) ∧ V.cell? ⟨B4 + 1, 1, none⟩ = some (.int .i64 t3) ∧ V.cell? ⟨B5, 0, none⟩ = some (.int .i64 r0) ∧ V.cell? ⟨B5, 1, none⟩ = some (.int .i64 r1) ∧ V.cell? ⟨B5 + 1, 0, none⟩ = some (.int .i64 r2) ∧ V.cell? ⟨B5 + 1, 1, none⟩ = some (.int .i64 r3)) (by kernel_rfl) (by kernel_rfl) (fun _ _ d _ _ h => by cases d <;> exact h) (hI.out _ hb0) ?_
        repeat (first | (refine seq_read rfl (by rfl) _ (fun w' hS => by (try dsimp only at hS); go_simp; (try with_reducible rfl)) ?_; (try simp only [Act.put, List.setIfInBounds_toArray, List.set_cons_zero, List.set_cons_succ])) | (refine seq_skip rfl (by rfl) ?_; (try simp only [Act.put, List.setIfInBounds_toArray, List.set_cons_zero, List.set_cons_succ])))
        apply seq_end
        first | show Exit.inBlock _ _ Exit.normal _ _ | show Exit.then _ _ Exit.normal _ _ | skip
        go_wp2_with fail
        go_meet
        exact ⟨rfl, hb0⟩
      case rest =>
      obtain ⟨rfl, hbc⟩ := hcut
      obtain ⟨R9, rfl⟩ : ∃ R9 : World, R9 = wc := ⟨_, rfl⟩
      replace qc := qc.grown hbc
      replace qd := qd.grown hbc
      replace qu := qu.grown hbc
      replace qv := qv.grown hbc
      replace hB := BT hB hbc
      clear hbc
      clear hry2
      obtain ⟨p0, p1, p2⟩ := id (HT.out.grown hB).bp
      (try dsimp only at p0 p1 p2)
      go_wp2_with fail
      clear p0 p1 p2
      refine (HA1.out R9 hB).mono ?_
      rintro e Y10 ⟨rfl, hx⟩
      replace qc := qc.grown hx
      replace qd := qd.grown hx
      replace qu := qu.grown hx
      replace qv := qv.grown hx
      replace hB := BT hB hx
      clear hx
      obtain ⟨Z10, hZ⟩ : ∃ Z, (((Y10.setCell ⟨B4, 0, none⟩ (.int .i64 u0)).setCell ⟨B4, 1, none⟩ (.int .i64 u1)).setCell ⟨B4 + 1, 0, none⟩ (.int .i64 u2)).setCell ⟨B4 + 1, 1, none⟩ (.int .i64 u3) = Z := ⟨_, rfl⟩
      obtain ⟨qcn, qdn, hoth, hbel⟩ := set_two qc qd (by omega) u0 u1 u2 u3 hZ
      replace hB := hbel _ _ (by omega) (by omega) hB
      replace qu := hoth _ _ _ qu (by omega) (by omega)
      replace qv := hoth _ _ _ qv (by omega) (by omega)
      clear hoth hbel
      obtain ⟨cp0, cp1, cp2, cp3⟩ := id qc
      obtain ⟨dp0, dp1, dp2, dp3⟩ := id qd
      obtain ⟨x0, x1, x2⟩ := id (HT.out.grown hB).bx
      (try dsimp only at x0 x1 x2)
      go_wp2_with fail
      clear hZ cp0 cp1 cp2 cp3 dp0 dp1 dp2 dp3
      clear qc
      have qc := qcn
      clear qcn
      clear qd
      have qd := qdn
      clear qdn
      clear x0 x1 x2
      refine (HAx.out Z10 hB).mono ?_
      rintro e Y11 ⟨rfl, hx⟩
      replace qc := qc.grown hx
      replace qd := qd.grown hx
      replace qu := qu.grown hx
      replace qv := qv.grown hx
      replace hB := BT hB hx
      clear hx
      obtain ⟨Z11, hZ⟩ : ∃ Z, (((Y11.setCell ⟨B5, 0, none⟩ (.int .i64 u0)).setCell ⟨B5, 1, none⟩ (.int .i64 u1)).setCell ⟨B5 + 1, 0, none⟩ (.int .i64 u2)).setCell ⟨B5 + 1, 1, none⟩ (.int .i64 u3) = Z := ⟨_, rfl⟩
      obtain ⟨qun, qvn, hoth, hbel⟩ := set_two qu qv (by omega) u0 u1 u2 u3 hZ
      replace hB := hbel _ _ (by omega) (by omega) hB
      replace qc := hoth _ _ _ qc (by omega) (by omega)
      replace qd := hoth _ _ _ qd (by omega) (by omega)
      clear hoth hbel
      obtain ⟨cp0, cp1, cp2, cp3⟩ := id qu
      obtain ⟨dp0, dp1, dp2, dp3⟩ := id qv
      obtain ⟨p0, p1, p2⟩ := id (HT.out.grown hB).bp
      (try dsimp only at p0 p1 p2)
      go_wp2_with fail
      clear hZ cp0 cp1 cp2 cp3 dp0 dp1 dp2 dp3
      clear qu
      have qu := qun
      clear qun
      clear qv
      have qv := qvn
      clear qvn
      clear p0 p1 p2
      refine (HC1.out Z11 hB).mono ?_
      rintro e Y12 ⟨rfl, hx⟩
      replace qc := qc.grown hx
      replace qd := qd.grown hx
      replace qu := qu.grown hx
      replace qv := qv.grown hx
      replace hB := BT hB hx
      clear hx
      obtain ⟨x0, x1, x2⟩ := id (HT.out.grown hB).bx
      (try dsimp only at x0 x1 x2)
      go_wp2_with fail
      clear x0 x1 x2
      refine (HCx.out Y12 hB).mono ?_
      rintro e Y13 ⟨rfl, hx⟩
      replace qc := qc.grown hx
      replace qd := qd.grown hx
      replace qu := qu.grown hx
      replace qv := qv.grown hx
      replace hB := BT hB hx
      clear hx
      obtain ⟨p0, p1, p2⟩ := id (HT.out.grown hB).bp
      (try dsimp only at p0 p1 p2)
      obtain ⟨qcc, qcd, -, -⟩ := id qc
      obtain ⟨quc, qud, -, -⟩ := id qu
      obtain ⟨qdc, qdd, -, -⟩ := id qd
      obtain ⟨qvc, qvd, -, -⟩ := id qv
      go_wp2_with fail
      clear qcc qcd quc qud qdc qdd qvc qvd
      clear p0 p1 p2
      refine (HF1.out Y13 hB).mono ?_
      rintro e Y14 ⟨rfl, hx⟩
      replace qc := qc.grown hx
      replace qd := qd.grown hx
      replace qu := qu.grown hx
      replace qv := qv.grown hx
      replace hB := BT hB hx
      clear hx
      obtain ⟨Z14, hZ⟩ : ∃ Z, (((Y14.setCell ⟨B4, 0, none⟩ (.int .i64 f0)).setCell ⟨B4, 1, none⟩ (.int .i64 f1)).setCell ⟨B4 + 1, 0, none⟩ (.int .i64 f2)).setCell ⟨B4 + 1, 1, none⟩ (.int .i64 f3) = Z := ⟨_, rfl⟩
      obtain ⟨qcn, qdn, hoth, hbel⟩ := set_two qc qd (by omega) f0 f1 f2 f3 hZ
      replace hB := hbel _ _ (by omega) (by omega) hB
      replace qu := hoth _ _ _ qu (by omega) (by omega)
      replace qv := hoth _ _ _ qv (by omega) (by omega)
      clear hoth hbel
      obtain ⟨cp0, cp1, cp2, cp3⟩ := id qc
      obtain ⟨dp0, dp1, dp2, dp3⟩ := id qd
      rcases HFF.out with he2 | ⟨hE2, hN2, g0, g1, g2, g3, eg, hfx, hsame⟩
      · subst he2
        go_wp2_with fail
        clear hZ cp0 cp1 cp2 cp3 dp0 dp1 dp2 dp3
        clear qc
        have qc := qcn
        clear qcn
        clear qd
        have qd := qdn
        clear qdn
        refine (alive_any _).mono ?_
        rintro e wz ⟨rfl, hz⟩
        have hB := BT hB hz
        go_wp2_with fail
        go_ret
        exact ⟨rfl, hBw.trans (hB.mono hBw.size)⟩
      by_cases he2 : ef = 2
      · subst he2
        go_wp2_with fail
        clear hZ cp0 cp1 cp2 cp3 dp0 dp1 dp2 dp3
        clear qc
        have qc := qcn
        clear qcn
        clear qd
        have qd := qdn
        clear qdn
        refine (alive_any _).mono ?_
        rintro e wz ⟨rfl, hz⟩
        have hB := BT hB hz
        go_wp2_with fail
        go_ret
        exact ⟨rfl, hBw.trans (hB.mono hBw.size)⟩
      obtain ⟨x0, x1, x2⟩ := id (HT.out.grown hB).bx
      (try dsimp only at x0 x1 x2)
      have HFX2 : Hid (∀ Y, Below wr.heap.size wr Y → Calls Try.prog 23 #[.agg #[.int .i64 p.lo, .int .i64 p.hi, .slice sa p.n cap], .int .i64 (E + bd), .int .i64 (N + td)] Y (Ret (.tuple #[.agg #[.int .i64 g0, .int .i64 g1], .agg #[.int .i64 g2, .int .i64 g3], .int .i64 eg]) Y)) := fun Y hY => by
        have h0 := HFX.out (E + bd) (N + td) Y hY
        rw [hfx] at h0
        exact h0
      clear HFX hfx HFF
      go_wp2_with fail
      clear hZ cp0 cp1 cp2 cp3 dp0 dp1 dp2 dp3
      clear qc
      have qc := qcn
      clear qcn
      clear qd
      have qd := qdn
      clear qdn
      clear x0 x1 x2
      refine (HFX2.out Z14 hB).mono ?_
      rintro e Y15 ⟨rfl, hx⟩
      replace qc := qc.grown hx
      replace qd := qd.grown hx
      replace qu := qu.grown hx
      replace qv := qv.grown hx
      replace hB := BT hB hx
      clear hx
      obtain ⟨Z15, hZ⟩ : ∃ Z, (((Y15.setCell ⟨B5, 0, none⟩ (.int .i64 g0)).setCell ⟨B5, 1, none⟩ (.int .i64 g1)).setCell ⟨B5 + 1, 0, none⟩ (.int .i64 g2)).setCell ⟨B5 + 1, 1, none⟩ (.int .i64 g3) = Z := ⟨_, rfl⟩
      obtain ⟨qun, qvn, hoth, hbel⟩ := set_two qu qv (by omega) g0 g1 g2 g3 hZ
      replace hB := hbel _ _ (by omega) (by omega) hB
      replace qc := hoth _ _ _ qc (by omega) (by omega)
      replace qd := hoth _ _ _ qd (by omega) (by omega)
      clear hoth hbel
      obtain ⟨cp0, cp1, cp2, cp3⟩ := id qu
      obtain ⟨dp0, dp1, dp2, dp3⟩ := id qv
      rcases hsame with rfl | ⟨rfl, rfl, rfl, rfl, rfl⟩
      · skip
        obtain ⟨qcc, qcd, -, -⟩ := id qc
        obtain ⟨quc, qud, -, -⟩ := id qu
        obtain ⟨qdc, qdd, -, -⟩ := id qd
        obtain ⟨qvc, qvd, -, -⟩ := id qv
        go_wp2_with fail
        clear qcc qcd quc qud qdc qdd qvc qvd
        clear hZ cp0 cp1 cp2 cp3 dp0 dp1 dp2 dp3
        clear qu
        have qu := qun
        clear qun
        clear qv
        have qv := qvn
        clear qvn
        refine (alive_any _).mono ?_
        rintro e wz ⟨rfl, hz⟩
        have hB := BT hB hz
        go_wp2_with fail
        go_ret
        exact ⟨rfl, hBw.trans (hB.mono hBw.size)⟩
      obtain ⟨qcc, qcd, -, -⟩ := id qc
      obtain ⟨qdc, qdd, -, -⟩ := id qd
      obtain ⟨quc, qud, -, -⟩ := id qun
      obtain ⟨qvc, qvd, -, -⟩ := id qvn
      go_wp2_with fail
      clear qcc qcd quc qud qdc qdd qvc qvd
      clear hZ cp0 cp1 cp2 cp3 dp0 dp1 dp2 dp3
      clear qu
      have qu := qun
      clear qun
      clear qv
      have qv := qvn
      clear qvn
      refine (alive_any _).mono ?_
      rintro e wz ⟨rfl, hz⟩
      have hB := BT hB hz
      go_wp2_with fail
      go_ret
      exact ⟨rfl, hBw.trans (hB.mono hBw.size)⟩
end Go.Proofs.Ytdkegkacpdkjgaa

namespace Go.Proofs.Ytdkegkacpdkjgaa.PlateMovedRow
open Go.ChangeShapes Go.WideShapes Go.ChangeAt Go.RowKit

theorem own : ownKnob Try.prog.godebug = none := by kernel_rfl

set_option maxRecDepth 100000 in
theorem lifted (os : Os) (started : os.Started) (H : Type) (enc : TypeId × Value → H) :
    ReturnsInHanded {} Try.checked os 8 .any (Rows.plateMovedSpec.pre6 enc Try.prog Try.f8 Rows.plateMovedRow.domain false) (Rows.plateMovedSpec.post enc Try.prog Try.f8 false true false false) := by
  refine returnsInHanded_of_change (C := Try.checked) own started (by kernel_rfl) Try.func8
    (ChangeSpec.witness6 (enc := enc) (C := Try.checked) false ⟨#[], #[.agg #[.int .i64 0, .int .i64 0, .slice none 0 0], .int .i64 0, .int .i64 0, .int .i64 0, .int .i64 0, .int .i16 0, .int .i16 0], []⟩ 8 (by kernel_rfl) (by kernel_rfl) (by kernel_rfl) (by kernel_rfl)) ?_
  intro W base args ds gs before hval0 hW hcnd _
  have hval : ∀ (j : Nat) t v, Try.f8.params[j]? = some t → args[j]? = some v → Value.okWide Try.prog W .any base t v := hval0
  have hW' := hW
  obtain ⟨p, q, hA0, hV, rfl, hfz, hnd⟩ := hW
  have hA : DataW.TrodAll enc Try.prog W 0 (fun _ => true) true Try.f8.params.toList args.toList ds p := hA0
  rw [Try.params8] at hA hval
  obtain ⟨v0, vs0, d0, ds0, p0, q0, hargs, rfl, rfl, h0, r0⟩ := trodAll_cons hA
  obtain ⟨v1, vs1, d1, ds1, p1, q1, rfl, rfl, rfl, h1, r1⟩ := trodAll_cons r0
  obtain ⟨v2, vs2, d2, ds2, p2, q2, rfl, rfl, rfl, h2, r2⟩ := trodAll_cons r1
  obtain ⟨v3, vs3, d3, ds3, p3, q3, rfl, rfl, rfl, h3, r3⟩ := trodAll_cons r2
  obtain ⟨v4, vs4, d4, ds4, p4, q4, rfl, rfl, rfl, h4, r4⟩ := trodAll_cons r3
  obtain ⟨v5, vs5, d5, ds5, p5, q5, rfl, rfl, rfl, h5, r5⟩ := trodAll_cons r4
  obtain ⟨v6, vs6, d6, ds6, p6, q6, rfl, rfl, rfl, h6, r6⟩ := trodAll_cons r5
  obtain ⟨rfl, rfl, rfl⟩ := trodAll_nil r6
  obtain rfl : args = #[v0, v1, v2, v3, v4, v5, v6] := Array.toList_inj.1 (by simpa using hargs)
  obtain ⟨pl, ss, rfl, hnl, hst⟩ := open_plate (hval 0 29 v0 rfl rfl) h0
  obtain ⟨y1, rfl, rfl, rfl, w1⟩ := open_int Try.underlying3 (hval 1 3 v1 rfl rfl) h1
  obtain ⟨y2, rfl, rfl, rfl, w2⟩ := open_int Try.underlying3 (hval 2 3 v2 rfl rfl) h2
  obtain ⟨y3, rfl, rfl, rfl, w3⟩ := open_int Try.underlying3 (hval 3 3 v3 rfl rfl) h3
  obtain ⟨y4, rfl, rfl, rfl, w4⟩ := open_int Try.underlying3 (hval 4 3 v4 rfl rfl) h4
  obtain ⟨y5, rfl, rfl, rfl, w5⟩ := open_int Try.underlying64 (hval 5 64 v5 rfl rfl) h5
  obtain ⟨y6, rfl, rfl, rfl, w6⟩ := open_int Try.underlying64 (hval 6 64 v6 rfl rfl) h6
  obtain ⟨rfl, rfl⟩ := trodVars_none hV
  have hy1 := rng_of w1
  have hy2 := rng_of w2
  have hy3 := rng_of w3
  have hy4 := rng_of w4
  have hy5 : -32768 ≤ y5 ∧ y5 ≤ 32767 := by
    have e1 : IntKind.i16.min = -32768 := by decide
    have e2 : IntKind.i16.max = 32767 := by decide
    simp only [Lit.wf, e1, e2, Bool.and_eq_true, decide_eq_true_eq] at w5
    exact w5
  have hy6 : -32768 ≤ y6 ∧ y6 ≤ 32767 := by
    have e1 : IntKind.i16.min = -32768 := by decide
    have e2 : IntKind.i16.max = 32767 := by decide
    simp only [Lit.wf, e1, e2, Bool.and_eq_true, decide_eq_true_eq] at w6
    exact w6
  refine (moved_walk pl ss y1 y2 y3 y4 y5 y6 W hnl hst hy5 hy6).mono fun e W' ⟨he, hb⟩ => ?_
  subst he
  refine ⟨_, rfl, law_last rfl (by decide +kernel) (fun _ _ _ => trodAll_cons_mk (shut_bool Try.underlying4 _) trodAll_mk0) (ok_one (by kernel_rfl) rfl (okWide_bool_mk Try.underlying4 _)) hW' rfl rfl rfl hb⟩

theorem over : Rows.plateMovedRow.holds Try.pinned (OpenSpec.ofChange Rows.plateMovedSpec) :=
  OpenClaim.holds_of_wide 8 Try.f8 rfl rfl rfl rfl rfl rfl rfl ⟨rfl, rfl, rfl, rfl, rfl⟩ rfl rfl rfl rfl rfl (by kernel_rfl) Try.func8 (by kernel_rfl)
    (of_decide_eq_true (by kernel_rfl)) (by unfold Func.isWrapper; first | (rw [if_pos (by decide +kernel)]; kernel_rfl) | (rw [if_neg (by decide +kernel)]; exact ⟨rfl, rfl⟩))
    (fun os started H enc _ => lifted os started H enc)

theorem plateMoved_holds : Rows.PlateMovedSaid := over
#print axioms plateMoved_holds
end Go.Proofs.Ytdkegkacpdkjgaa.PlateMovedRow
