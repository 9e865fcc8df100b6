/- A region that leaves its order open, walked in an order that is written down: what only reads is taken as soon as it may come up; of what calls or writes one comes alone, or two come in either order. The kernel checks the order. -/
import Derived.OrdersHeld
import Derived.WalkKit
namespace Go.Proofs.YtdkegkacpdkjgaaGreat
section
variable {P : Program} {ops : Array Oper} {l : List Oper} {Q : Exit → Act → World → Prop} {md : Region.Mode} {S : World → Prop}

/-- What an operation waits for, at once. -/
def deps (md : Region.Mode) (ops : Array Oper) (j : Nat) : List Nat :=
  ((ops[j]?).map fun o => (o.after.toList.filter fun e => Region.binds md e).map (·.on)).getD []
/-- What is waited for in some steps. -/
def depsN (md : Region.Mode) (ops : Array Oper) : Nat → List Nat → List Nat
  | 0, l => l
  | n + 1, l => l ++ depsN md ops n (l.flatMap (deps md ops))
/-- It waits for all others. -/
def finalOp (md : Region.Mode) (ops : Array Oper) (j : Nat) : Bool :=
  (List.range ops.size).all fun k => k == j || (depsN md ops 2 (deps md ops j)).contains k
/-- What came up had all come up for which it waits. -/
def Closed (md : Region.Mode) (ops : Array Oper) (listed : Array Bool) : Prop := ∀ j, listed.getD j false = true → ∀ k ∈ deps md ops j, listed.getD k false = true
theorem closed_none (n : Nat) : Closed md ops (Array.replicate n false) := fun j h => by
  rw [Array.getD_eq_getD_getElem?, Array.getElem?_replicate] at h
  split at h <;> cases h
theorem deps_ready {listed : Array Bool} {j : Nat} (hj : j ∈ Region.ready md ops listed) : ∀ k ∈ deps md ops j, listed.getD k false = true := by
  intro k hk
  obtain ⟨_, o, ho, hall⟩ := mem_ready.1 hj
  simp only [deps, ho, Option.map_some, Option.getD_some, List.mem_map, List.mem_filter] at hk
  obtain ⟨e, ⟨he, hb⟩, rfl⟩ := hk
  exact hall e (Array.mem_toList_iff.1 he) hb
theorem closed_set {listed : Array Bool} {j : Nat} (h : Closed md ops listed) (hj : j ∈ Region.ready md ops listed) : Closed md ops (listed.setIfInBounds j true) := by
  intro x hx k hk
  refine getD_set_true ?_
  by_cases e : j = x
  · subst e; exact deps_ready hj k hk
  · exact h x (by rw [getD_set_ne false e] at hx; exact hx) k hk
theorem closed_depsN {listed : Array Bool} (h : Closed md ops listed) : ∀ (n : Nat) (l : List Nat), (∀ k ∈ l, listed.getD k false = true) → ∀ k ∈ depsN md ops n l, listed.getD k false = true
  | 0, _, hl => hl
  | n + 1, l, hl => fun k hk => by
    rw [depsN, List.mem_append] at hk
    rcases hk with hk | hk
    · exact hl k hk
    · refine closed_depsN h n _ (fun x hx => ?_) k hk
      obtain ⟨y, hy, hx⟩ := List.mem_flatMap.1 hx
      exact h y (hl y hy) x hx
/-- Whatever order is picked, and S holds behind each operation that is carried out, but for one that waits for all others. -/
def wpAnyR (P : Program) (md : Region.Mode) (ops : Array Oper) (Q : Exit → Act → World → Prop) (S : World → Prop) : Nat → Array Bool → Act → World → Prop
  | 0, listed, a, w => Region.ready md ops listed = [] ∧ Q .normal a w
  | fuel + 1, listed, a, w =>
    (Region.ready md ops listed = [] → Q .normal a w) ∧
    ∀ i ∈ Region.ready md ops listed, wpOp P ops Q i (fun a' w' => (finalOp md ops i = false → S w') ∧ wpAnyR P md ops Q S fuel (listed.setIfInBounds i true) a' w') a w
theorem wpAny_of_R : ∀ (fuel : Nat) (listed : Array Bool) (a : Act) (w : World), wpAnyR P md ops Q S fuel listed a w → wpAny P md ops Q fuel listed a w
  | 0, _, _, _, h => h
  | fuel + 1, _, _, _, h => ⟨h.1, fun i hi => wpOp_mono (fun a' w' h' => wpAny_of_R fuel _ a' w' h'.2) (h.2 i hi)⟩
/-- What is not final may come up while another one has not. -/
theorem not_final {listed : Array Bool} {i j : Nat} (hc : Closed md ops listed) (hi : i ∈ Region.ready md ops listed) (hj : j ∈ Region.ready md ops listed) (hne : j ≠ i) : finalOp md ops j = false := by
  obtain ⟨hi0, oi, hoi, _⟩ := mem_ready.1 hi
  have hsz : i < ops.size := (Array.getElem?_eq_some_iff.1 hoi).1
  cases hf : finalOp md ops j
  · rfl
  · exfalso
    unfold finalOp at hf
    rw [List.all_eq_true] at hf
    have h1 := hf i (List.mem_range.2 hsz)
    simp only [Bool.or_eq_true, beq_iff_eq, List.contains_iff_mem] at h1
    rcases h1 with h1 | h1
    · exact hne h1.symm
    · have h2 := closed_depsN hc 2 _ (deps_ready hj) i h1
      rcases Nat.lt_or_ge i listed.size with h' | h'
      · simp [h'] at hi0 h2; rw [hi0] at h2; cases h2
      · simp [Array.getElem?_eq_none h'] at h2
/-- What yields one value in each world that meets S, and may come up, may be taken first. -/
theorem wpAnyR_first {i : Nat} {oi : Oper} {v : Value} (hi : ops[i]? = some oi) (hsel : ∀ (j : Nat) (o : Oper) cs b, ops[j]? = some o → o.op ≠ .select cs b)
    (hQ : ∀ c a w, Q (.panic c) (a.put oi.dst v) w → Q (.panic c) a w) :
    ∀ (fuel : Nat) (listed : Array Bool) (a : Act) (w : World), Closed md ops listed →
      (∀ j oj, ops[j]? = some oj → j ≠ i → listed.getD j true = false → (∀ e ∈ oj.after, Region.binds md e = true → e.on ≠ i) → oi.apart ops oj = true) →
      i ∈ Region.ready md ops listed → YieldsIf P ops S oi v a → S w →
      wpAnyR P md ops Q S fuel (listed.setIfInBounds i true) (a.put oi.dst v) w → wpAnyR P md ops Q S (fuel + 1) listed a w := by
  intro fuel
  induction fuel with
  | zero =>
    intro listed a w _ _ hr hy hS H
    refine ⟨fun h => absurd hr (by rw [h]; simp), fun j hj => ?_⟩
    by_cases hji : j = i
    · subst hji; exact hy.wpOp hi hS ⟨fun _ => hS, H⟩
    · have hj' := ready_mono hj hji
      rw [H.1] at hj'; cases hj'
  | succ fuel ih =>
    intro listed a w hcl hfree hr hy hS H
    refine ⟨fun h => absurd hr (by rw [h]; simp), fun j hj => ?_⟩
    by_cases hji : j = i
    · subst hji; exact hy.wpOp hi hS ⟨fun _ => hS, H⟩
    · have hnf := not_final hcl hr hj hji
      obtain ⟨hjun, oj, hoj, hall⟩ := mem_ready.1 hj
      have hnot : ∀ e ∈ oj.after, Region.binds md e = true → e.on ≠ i := fun e he hb heq => by
        have h2 := hall e he hb
        have h0 := (mem_ready.1 hr).1
        rw [heq] at h2
        rcases Nat.lt_or_ge i listed.size with h' | h'
        · simp [h'] at h0 h2; rw [h0] at h2; cases h2
        · simp [Array.getElem?_eq_none h'] at h2
      have hstep := wpOp_putIf hoj (hfree j oj hoj hji hjun hnot) (fun cs b => hsel i oi cs b hi) (fun cs b => hsel j oj cs b hoj) hQ hy (H.2 j (ready_mono hj hji))
      have hfree2 : ∀ k ok, ops[k]? = some ok → k ≠ i → (listed.setIfInBounds j true).getD k true = false →
          (∀ e ∈ ok.after, Region.binds md e = true → e.on ≠ i) → oi.apart ops ok = true := fun k ok hk hki hun hno => by
        refine hfree k ok hk hki ?_ hno
        by_cases hjk : j = k
        · subst hjk; exact hjun
        · rw [getD_set_ne true hjk] at hun; exact hun
      refine wpOp_mono (fun a' w' h3 => ?_) hstep
      obtain ⟨hy3, hS3, h3⟩ := h3
      rw [Array.setIfInBounds_comm _ _ (Ne.symm hji)] at h3
      exact ⟨hS3, ih (listed.setIfInBounds j true) a' w' (closed_set hcl hj) hfree2 (ready_mono hr (Ne.symm hji)) hy3 (hS3 hnf) h3⟩

/-- Steps in the order of the walk, and then F; 'true': it only reads. -/
def wpSeq (P : Program) (md : Region.Mode) (l : List Oper) (Q : Exit → Act → World → Prop) (S : World → Prop) (F : Act → World → Prop) : List (Nat × Bool) → Act → World → Prop
  | [], a, w => F a w
  | (i, b) :: rest, a, w =>
    match l[i]? with
    | none => False
    | some o =>
      (Region.wanted o (yielded l.toArray a.tmps) = false ∧ wpSeq P md l Q S F rest (a.put o.dst undef) w) ∨
      (Region.wanted o (yielded l.toArray a.tmps) = true ∧
        if b then ∃ v, (∀ w', S w' → (execOp a.eval o).run P w' = .ok (.value v) w') ∧ wpSeq P md l Q S F rest (a.put o.dst v) w
        else o.wp P a w (fun a' w' => (finalOp md l.toArray i = false → S w') ∧ ((finalOp md l.toArray i = false → S w') → wpSeq P md l Q S F rest a' w')) Q)

/-- The list may come so, from these on; what is then behind. -/
def seqPre (md : Region.Mode) (ops : Array Oper) : List (Nat × Bool) → Array Bool → Option (Array Bool)
  | [], listed => some listed
  | (i, true) :: rest, listed => if (Region.ready md ops listed).contains i && Region.free md ops listed i then seqPre md ops rest (listed.setIfInBounds i true) else none
  | (i, false) :: rest, listed => if decide (Region.ready md ops listed = [i]) && (!finalOp md ops i || rest.isEmpty) then seqPre md ops rest (listed.setIfInBounds i true) else none

theorem seqPre_closed : ∀ (L : List (Nat × Bool)) (listed d : Array Bool), Closed md ops listed → seqPre md ops L listed = some d → Closed md ops d
  | [], listed, d, h, hd => by
    simp only [seqPre, Option.some.injEq] at hd
    subst hd; exact h
  | (i, true) :: rest, listed, d, h, hd => by
    simp only [seqPre] at hd
    split at hd
    case isFalse => cases hd
    case isTrue hc =>
      simp only [Bool.and_eq_true] at hc
      exact seqPre_closed rest _ d (closed_set h (by simpa using hc.1)) hd
  | (i, false) :: rest, listed, d, h, hd => by
    simp only [seqPre] at hd
    split at hd
    case isFalse => cases hd
    case isTrue hc =>
      simp only [Bool.and_eq_true, decide_eq_true_eq] at hc
      exact seqPre_closed rest _ d (closed_set h (by rw [hc.1]; simp)) hd

theorem wpSeq_sound {F : Act → World → Prop} (hs : Region.noSelect l.toArray = true) (hQ : ∀ c a d v w, Q (.panic c) (Act.put a d v) w → Q (.panic c) a w) (n : Nat) (done : Array Bool) (fin : Prop)
    (hF : ∀ fuel a w, n ≤ fuel → (fin → S w) → F a w → wpAnyR P md l.toArray Q S fuel done a w) :
    ∀ (L : List (Nat × Bool)) (fuel : Nat) (listed : Array Bool) (a : Act) (w : World), L.length + n ≤ fuel → Closed md l.toArray listed → seqPre md l.toArray L listed = some done →
      (fin → ∀ p ∈ L, finalOp md l.toArray p.1 = false) → S w → wpSeq P md l Q S F L a w → wpAnyR P md l.toArray Q S fuel listed a w := by
  intro L
  induction L with
  | nil =>
    intro fuel listed a w hf _ hok _ hS h
    simp only [seqPre, Option.some.injEq] at hok
    subst hok
    exact hF fuel a w (by simpa using hf) (fun _ => hS) h
  | cons p rest ih =>
    intro fuel listed a w hf hcl hok hfin hS h
    obtain ⟨i, b⟩ := p
    cases fuel with
    | zero => simp at hf
    | succ fuel =>
      have hf' : rest.length + n ≤ fuel := by simp at hf; omega
      have hfin' : fin → ∀ p ∈ rest, finalOp md l.toArray p.1 = false := fun hh p hp => hfin hh p (List.mem_cons_of_mem _ hp)
      simp only [wpSeq] at h
      cases ho : l[i]? with
      | none => rw [ho] at h; exact h.elim
      | some o =>
        rw [ho] at h
        have ho' : l.toArray[i]? = some o := by simpa using ho
        cases b with
        | true =>
          simp only [seqPre] at hok
          split at hok
          case isFalse => cases hok
          case isTrue hc =>
            simp only [Bool.and_eq_true] at hc
            have hr : i ∈ Region.ready md l.toArray listed := by simpa using hc.1
            rcases h with ⟨hw, h⟩ | ⟨hw, h⟩
            · exact wpAnyR_first ho' (Region.noSelect_spec hs) (fun c a w => hQ c a _ _ w) fuel listed a w hcl (Region.free_spec ho' hc.2) hr (Or.inr ⟨hw, rfl⟩) hS (ih fuel _ _ _ hf' (closed_set hcl hr) hok hfin' hS h)
            · simp only [if_true] at h
              obtain ⟨v, hv, h⟩ := h
              exact wpAnyR_first ho' (Region.noSelect_spec hs) (fun c a w => hQ c a _ _ w) fuel listed a w hcl (Region.free_spec ho' hc.2) hr (Or.inl ⟨hw, hv⟩) hS (ih fuel _ _ _ hf' (closed_set hcl hr) hok hfin' hS h)
        | false =>
          simp only [seqPre] at hok
          split at hok
          case isFalse => cases hok
          case isTrue hc =>
            simp only [Bool.and_eq_true, decide_eq_true_eq, Bool.or_eq_true, Bool.not_eq_true'] at hc
            obtain ⟨hr, hend⟩ := hc
            refine ⟨fun h0 => absurd h0 (by rw [hr]; simp), fun j hj => ?_⟩
            rw [hr] at hj
            obtain rfl : j = i := by simpa using hj
            have go : ∀ a' w', (finalOp md l.toArray j = false → S w') → wpSeq P md l Q S F rest a' w' → wpAnyR P md l.toArray Q S fuel (listed.setIfInBounds j true) a' w' := fun a' w' hS' h' => by
              rcases hend with hnf | hemp
              · exact ih fuel _ _ _ hf' (closed_set hcl (by rw [hr]; simp)) hok hfin' (hS' hnf) h'
              · have : rest = [] := by simpa using hemp
                subst this
                simp only [seqPre, Option.some.injEq] at hok
                subst hok
                exact hF fuel a' w' (by simpa using hf') (fun hh => hS' (hfin hh (j, false) (List.mem_cons_self ..))) h'
            unfold Go.wpOp
            rw [ho']
            rcases h with ⟨hw, h⟩ | ⟨hw, h⟩
            · simp only [hw, Bool.false_eq_true, if_false]
              exact ⟨fun _ => hS, go _ _ (fun _ => hS) h⟩
            · simp only [Bool.false_eq_true, if_false] at h
              simp only [hw, if_true]
              exact Or.inl (Oper.wp_mono (fun a' w' h' => ⟨h'.1, go a' w' h'.1 (h'.2 h'.1)⟩) h)

def seqOk (ops : Array Oper) (L : List (Nat × Bool)) : Bool :=
  Region.noSelect ops && decide (L.length ≤ ops.size) && (match seqPre .any ops L (Array.replicate ops.size false) with | some d => (Region.ready .any ops d).isEmpty | none => false)

/-- The beginning: the list, checked by the kernel; S of the world at hand. -/
theorem wp_region_seq {id : Nat} {a : Act} {w : World} (L : List (Nat × Bool)) (S : World → Prop) (hm : P.follows .mixedOrders = true) (hok : seqOk l.toArray L = true)
    (hQ : ∀ c a d v w, Q (.panic c) (Act.put a d v) w → Q (.panic c) a w) (hS : S w.drew)
    (h : wpSeq P .any l Q S (Q .normal) L a w.drew) : (Code.region id l.toArray true).wp P Q a w := by
  unfold seqOk at hok
  simp only [Bool.and_eq_true, decide_eq_true_eq] at hok
  obtain ⟨⟨h1, h2⟩, h3⟩ := hok
  split at h3
  case h_2 => cases h3
  case h_1 d hd =>
    refine wp_region_any hm (wpAny_of_R (S := S) _ _ _ _ (wpSeq_sound h1 hQ 0 d False ?_ L _ _ _ _ h2 (closed_none _) hd (fun hh => hh.elim) hS h))
    intro fuel a w _ _ hq
    have hr : Region.ready .any l.toArray d = [] := by simpa using h3
    cases fuel with
    | zero => exact ⟨hr, hq⟩
    | succ fuel => exact ⟨fun _ => hq, by rw [hr]; simp⟩

/-- Two that may come in either order, behind L: each with what follows it then. -/
def forkOk (ops : Array Oper) (L L1 L2 : List (Nat × Bool)) : Bool :=
  Region.noSelect ops && decide (L.length + L1.length ≤ ops.size) && decide (L.length + L2.length ≤ ops.size) && L.all (fun p => !finalOp .any ops p.1) &&
  (match seqPre .any ops L (Array.replicate ops.size false), L1, L2 with
    | some d, (i, false) :: R1, (j, false) :: R2 => decide (Region.ready .any ops d = [i, j]) && !finalOp .any ops i && !finalOp .any ops j &&
        (match seqPre .any ops R1 (d.setIfInBounds i true), seqPre .any ops R2 (d.setIfInBounds j true) with
          | some d1, some d2 => (Region.ready .any ops d1).isEmpty && (Region.ready .any ops d2).isEmpty
          | _, _ => false)
    | _, _, _ => false)
theorem wp_region_fork {id : Nat} {a : Act} {w : World} (L L1 L2 : List (Nat × Bool)) (S : World → Prop) (hm : P.follows .mixedOrders = true) (hok : forkOk l.toArray L L1 L2 = true)
    (hQ : ∀ c a d v w, Q (.panic c) (Act.put a d v) w → Q (.panic c) a w) (hS : S w.drew)
    (h : wpSeq P .any l Q S (fun a w => S w → wpSeq P .any l Q S (Q .normal) L1 a w ∧ wpSeq P .any l Q S (Q .normal) L2 a w) L a w.drew) : (Code.region id l.toArray true).wp P Q a w := by
  unfold forkOk at hok
  simp only [Bool.and_eq_true, decide_eq_true_eq] at hok
  obtain ⟨⟨⟨⟨h1, h2⟩, h2'⟩, hnf⟩, h3⟩ := hok
  split at h3
  case h_2 => cases h3
  case h_1 d i R1 j R2 hd =>
    simp only [Bool.and_eq_true, decide_eq_true_eq, Bool.not_eq_true'] at h3
    obtain ⟨⟨⟨hr, hi⟩, hj⟩, h4⟩ := h3
    split at h4
    case h_2 => cases h4
    case h_1 d1 d2 hd1 hd2 =>
      simp only [Bool.and_eq_true, List.isEmpty_iff] at h4
      have hend : ∀ (dd : Array Bool), Region.ready .any l.toArray dd = [] → ∀ (fuel : Nat) (a : Act) (w : World), 0 ≤ fuel → (False → S w) → Q .normal a w → wpAnyR P .any l.toArray Q S fuel dd a w := by
        intro dd hrr fuel a w _ _ hq
        cases fuel with
        | zero => exact ⟨hrr, hq⟩
        | succ fuel => exact ⟨fun _ => hq, by rw [hrr]; simp⟩
      refine wp_region_any hm (wpAny_of_R (S := S) _ _ _ _ (wpSeq_sound h1 hQ (max (R1.length + 1) (R2.length + 1)) d True ?_ L _ _ _ _ ?_ (closed_none _) hd ?_ hS h))
      · intro fuel a w hf hSw hb
        have hSw := hSw trivial
        obtain ⟨b1, b2⟩ := hb hSw
        cases fuel with
        | zero => omega
        | succ fuel =>
          refine ⟨fun h0 => absurd h0 (by rw [hr]; simp), fun k hk => ?_⟩
          rw [hr] at hk
          have hcd : Closed .any l.toArray d := seqPre_closed L _ d (closed_none _) hd
          have one : ∀ (k : Nat) (R : List (Nat × Bool)) (dd : Array Bool), k ∈ Region.ready .any l.toArray d → finalOp .any l.toArray k = false → R.length ≤ fuel → seqPre .any l.toArray R (d.setIfInBounds k true) = some dd → Region.ready .any l.toArray dd = [] →
              wpSeq P .any l Q S (Q .normal) ((k, false) :: R) a w → wpOp P l.toArray Q k (fun a' w' => (finalOp .any l.toArray k = false → S w') ∧ wpAnyR P .any l.toArray Q S fuel (d.setIfInBounds k true) a' w') a w := by
            intro k R dd hkr hkf hlen hdd hrd hb
            simp only [wpSeq] at hb
            cases ho : l[k]? with
            | none => rw [ho] at hb; exact hb.elim
            | some o =>
              rw [ho] at hb
              have ho' : l.toArray[k]? = some o := by simpa using ho
              have go : ∀ a' w', S w' → wpSeq P .any l Q S (Q .normal) R a' w' → wpAnyR P .any l.toArray Q S fuel (d.setIfInBounds k true) a' w' := fun a' w' hS' h' =>
                wpSeq_sound h1 hQ 0 dd False (hend dd hrd) R fuel _ a' w' (by omega) (closed_set hcd hkr) hdd (fun hh => hh.elim) hS' h'
              unfold Go.wpOp
              rw [ho']
              rcases hb with ⟨hw, hb⟩ | ⟨hw, hb⟩
              · simp only [hw, Bool.false_eq_true, if_false]
                exact ⟨fun _ => hSw, go _ _ hSw hb⟩
              · simp only [Bool.false_eq_true, if_false] at hb
                simp only [hw, if_true]
                exact Or.inl (Oper.wp_mono (fun a' w' h' => ⟨h'.1, go a' w' (h'.1 hkf) (h'.2 h'.1)⟩) hb)
          simp only [List.mem_cons, List.not_mem_nil, or_false] at hk
          rcases hk with rfl | rfl
          · exact one k R1 d1 (by rw [hr]; simp) hi (by omega) hd1 h4.1 b1
          · exact one k R2 d2 (by rw [hr]; simp) hj (by omega) hd2 h4.2 b2
      · simp at h2 h2'; simp; omega
      · intro _ p hp
        have := List.all_eq_true.1 hnf p hp
        simpa using this

variable {F : Act → World → Prop}
theorem seq_end {a : Act} {w : World} (h : F a w) : wpSeq P md l Q S F [] a w := h
theorem seq_skip {i : Nat} {b : Bool} {rest : List (Nat × Bool)} {o : Oper} {a : Act} {w : World} (ho : l[i]? = some o) (hw : Region.wanted o (yielded l.toArray a.tmps) = false)
    (h : wpSeq P md l Q S F rest (a.put o.dst undef) w) : wpSeq P md l Q S F ((i, b) :: rest) a w := by
  simp only [wpSeq, ho]; exact .inl ⟨hw, h⟩
theorem seq_read {i : Nat} {rest : List (Nat × Bool)} {o : Oper} {a : Act} {w : World} (ho : l[i]? = some o) (hw : Region.wanted o (yielded l.toArray a.tmps) = true) (v : Value)
    (hv : ∀ w', S w' → (execOp a.eval o).run P w' = .ok (.value v) w') (h : wpSeq P md l Q S F rest (a.put o.dst v) w) : wpSeq P md l Q S F ((i, true) :: rest) a w := by
  simp only [wpSeq, ho]; exact .inr ⟨hw, v, hv, h⟩
theorem seq_do {i : Nat} {rest : List (Nat × Bool)} {o : Oper} {a : Act} {w : World} (ho : l[i]? = some o) (hw : Region.wanted o (yielded l.toArray a.tmps) = true)
    (h : ∀ K : Act → World → Prop, (∀ a w, S w → wpSeq P md l Q S F rest a w → K a w) → o.wp P a w K Q) : wpSeq P md l Q S F ((i, false) :: rest) a w := by
  simp only [wpSeq, ho]; exact .inr ⟨hw, by simpa using h _ (fun a w hS h => ⟨fun _ => hS, fun _ => h⟩)⟩
/-- The last one, which waits for all others. -/
theorem seq_last {i : Nat} {o : Oper} {a : Act} {w : World} (ho : l[i]? = some o) (hw : Region.wanted o (yielded l.toArray a.tmps) = true) (hf : finalOp md l.toArray i = true)
    (h : ∀ K : Act → World → Prop, (∀ a w, F a w → K a w) → o.wp P a w K Q) : wpSeq P md l Q S F [(i, false)] a w := by
  simp only [wpSeq, ho]; exact .inr ⟨hw, by simpa [hf] using h F (fun a w h => h)⟩
theorem wp_cut {c : Code} {K : Act → World → Prop} {a : Act} {w : World} (Mid : Act → World → Prop) (h1 : c.wp P (Exit.then Mid Q) a w) (h2 : ∀ a' w', Mid a' w' → K a' w') : c.wp P (Exit.then K Q) a w :=
  Code.wp_mono (fun e a w h => by cases e <;> first | exact h2 _ _ h | exact h) h1
end
end Go.Proofs.YtdkegkacpdkjgaaGreat
