/- A region that leaves its order open, walked as a tree: what only reads is taken at once; of the others any that may come up next. The kernel checks the tree. -/
import Derived.Test.YtdkegkacpdkjgaaGreatSeq
import Derived.Test.YtdkegkacpdkjgaaGreatPlo
namespace Go.Proofs.YtdkegkacpdkjgaaGreat

/-- What comes up: a reading one, one alone, or any of two, of three. -/
inductive Tr where
  | leaf
  | read (i : Nat) (t : Tr)
  | one (i : Nat) (t : Tr)
  | two (i : Nat) (t : Tr) (j : Nat) (u : Tr)
  | three (i : Nat) (t : Tr) (j : Nat) (u : Tr) (k : Nat) (v : Tr)
def Tr.depth : Tr → Nat
  | .leaf => 0
  | .read _ t => t.depth + 1
  | .one _ t => t.depth + 1
  | .two _ t _ u => max t.depth u.depth + 1
  | .three _ t _ u _ v => max t.depth (max u.depth v.depth) + 1
def Tr.isLeaf : Tr → Bool
  | .leaf => true
  | _ => false

section
variable {P : Program} {l : List Oper} {Q : Exit → Act → World → Prop} {md : Region.Mode} {S : World → Prop}

def okTr (md : Region.Mode) (ops : Array Oper) : Tr → Array Bool → Bool
  | .leaf, d => (Region.ready md ops d).isEmpty
  | .read i t, d => (Region.ready md ops d).contains i && Region.free md ops d i && okTr md ops t (d.setIfInBounds i true)
  | .one i t, d => decide (Region.ready md ops d = [i]) && (!finalOp md ops i || t.isLeaf) && okTr md ops t (d.setIfInBounds i true)
  | .two i t j u, d => decide (Region.ready md ops d = [i, j]) && !finalOp md ops i && !finalOp md ops j && okTr md ops t (d.setIfInBounds i true) && okTr md ops u (d.setIfInBounds j true)
  | .three i t j u k v, d => decide (Region.ready md ops d = [i, j, k]) && !finalOp md ops i && !finalOp md ops j && !finalOp md ops k && okTr md ops t (d.setIfInBounds i true) && okTr md ops u (d.setIfInBounds j true) && okTr md ops v (d.setIfInBounds k true)

/-- One that does something, and then K. -/
def stepTr (P : Program) (md : Region.Mode) (l : List Oper) (Q : Exit → Act → World → Prop) (S : World → Prop) (i : Nat) (K : Act → World → Prop) (a : Act) (w : World) : Prop :=
  match l[i]? with
  | none => False
  | some o => (Region.wanted o (yielded l.toArray a.tmps) = false ∧ K (a.put o.dst undef) w) ∨
      (Region.wanted o (yielded l.toArray a.tmps) = true ∧ o.wp P a w (fun a' w' => (finalOp md l.toArray i = false → S w') ∧ ((finalOp md l.toArray i = false → S w') → K a' w')) Q)
def wpTr (P : Program) (md : Region.Mode) (l : List Oper) (Q : Exit → Act → World → Prop) (S : World → Prop) : Tr → Act → World → Prop
  | .leaf, a, w => Q .normal a w
  | .read i t, a, w => match l[i]? with
    | none => False
    | some o => (Region.wanted o (yielded l.toArray a.tmps) = false ∧ wpTr P md l Q S t (a.put o.dst undef) w) ∨
        (Region.wanted o (yielded l.toArray a.tmps) = true ∧ ∃ v, (∀ w', S w' → (execOp a.eval o).run P w' = .ok (.value v) w') ∧ wpTr P md l Q S t (a.put o.dst v) w)
  | .one i t, a, w => stepTr P md l Q S i (wpTr P md l Q S t) a w
  | .two i t j u, a, w => stepTr P md l Q S i (wpTr P md l Q S t) a w ∧ stepTr P md l Q S j (wpTr P md l Q S u) a w
  | .three i t j u k v, a, w => stepTr P md l Q S i (wpTr P md l Q S t) a w ∧ stepTr P md l Q S j (wpTr P md l Q S u) a w ∧ stepTr P md l Q S k (wpTr P md l Q S v) a w

theorem step_sound {i fuel : Nat} {K : Act → World → Prop} {listed : Array Bool} {a : Act} {w : World} (hS : S w) (h : stepTr P md l Q S i K a w)
    (hK : ∀ a' w', (finalOp md l.toArray i = false → S w') → K a' w' → wpAnyR P md l.toArray Q S fuel (listed.setIfInBounds i true) a' w') :
    wpOp P l.toArray Q i (fun a' w' => (finalOp md l.toArray i = false → S w') ∧ wpAnyR P md l.toArray Q S fuel (listed.setIfInBounds i true) a' w') a w := by
  unfold stepTr at h
  cases ho : l[i]? with
  | none => rw [ho] at h; exact h.elim
  | some o =>
    rw [ho] at h
    have ho' : l.toArray[i]? = some o := by simpa using ho
    unfold Go.wpOp
    rw [ho']
    rcases h with ⟨hw, h⟩ | ⟨hw, h⟩
    · simp only [hw, Bool.false_eq_true, if_false]
      exact ⟨fun _ => hS, hK _ _ (fun _ => hS) h⟩
    · simp only [hw, if_true]
      exact Or.inl (Oper.wp_mono (fun a' w' h' => ⟨h'.1, hK a' w' h'.1 (h'.2 h'.1)⟩) h)

theorem wpTr_sound (hs : Region.noSelect l.toArray = true) (hQ : ∀ c a d v w, Q (.panic c) (Act.put a d v) w → Q (.panic c) a w) :
    ∀ (t : Tr) (fuel : Nat) (listed : Array Bool) (a : Act) (w : World), t.depth ≤ fuel → Closed md l.toArray listed → okTr md l.toArray t listed = true → (t.isLeaf = false → S w) → wpTr P md l Q S t a w → wpAnyR P md l.toArray Q S fuel listed a w := by
  intro t
  induction t with
  | leaf =>
    intro fuel listed a w _ _ hok _ h
    have hr : Region.ready md l.toArray listed = [] := by simpa [okTr] using hok
    cases fuel with
    | zero => exact ⟨hr, h⟩
    | succ fuel => exact ⟨fun _ => h, by rw [hr]; simp⟩
  | read i t ih =>
    intro fuel listed a w hf hcl hok hS0 h
    have hS := hS0 rfl
    cases fuel with
    | zero => simp [Tr.depth] at hf
    | succ fuel =>
      have hf' : t.depth ≤ fuel := by simp [Tr.depth] at hf; omega
      simp only [okTr, Bool.and_eq_true] at hok
      obtain ⟨⟨hc, hfr⟩, hok⟩ := hok
      have hr : i ∈ Region.ready md l.toArray listed := by simpa using hc
      simp only [wpTr] at h
      cases ho : l[i]? with
      | none => rw [ho] at h; exact h.elim
      | some o =>
        rw [ho] at h
        have ho' : l.toArray[i]? = some o := by simpa using ho
        rcases h with ⟨hw, h⟩ | ⟨hw, v, hv, h⟩
        · exact wpAnyR_first ho' (Region.noSelect_spec hs) (fun c a w => hQ c a _ _ w) fuel listed a w hcl (Region.free_spec ho' hfr) hr (Or.inr ⟨hw, rfl⟩) hS (ih fuel _ _ _ hf' (closed_set hcl hr) hok (fun _ => hS) h)
        · exact wpAnyR_first ho' (Region.noSelect_spec hs) (fun c a w => hQ c a _ _ w) fuel listed a w hcl (Region.free_spec ho' hfr) hr (Or.inl ⟨hw, hv⟩) hS (ih fuel _ _ _ hf' (closed_set hcl hr) hok (fun _ => hS) h)
  | one i t ih =>
    intro fuel listed a w hf hcl hok hS0 h
    have hS := hS0 rfl
    cases fuel with
    | zero => simp [Tr.depth] at hf
    | succ fuel =>
      have hf' : t.depth ≤ fuel := by simp [Tr.depth] at hf; omega
      simp only [okTr, Bool.and_eq_true, decide_eq_true_eq, Bool.or_eq_true, Bool.not_eq_true'] at hok
      obtain ⟨⟨hr, hfin⟩, hok⟩ := hok
      refine ⟨fun h0 => absurd h0 (by rw [hr]; simp), fun j hj => ?_⟩
      rw [hr] at hj
      obtain rfl : j = i := by simpa using hj
      refine step_sound hS h (fun a' w' hS' h' => ih fuel _ _ _ hf' (closed_set hcl (by rw [hr]; simp)) hok (fun hl => ?_) h')
      rcases hfin with hfin | hfin
      · exact hS' hfin
      · rw [hfin] at hl; cases hl
  | two i t j u iht ihu =>
    intro fuel listed a w hf hcl hok hS0 h
    have hS := hS0 rfl
    cases fuel with
    | zero => simp [Tr.depth] at hf
    | succ fuel =>
      have hf' : t.depth ≤ fuel ∧ u.depth ≤ fuel := by simp [Tr.depth] at hf; omega
      simp only [okTr, Bool.and_eq_true, decide_eq_true_eq, Bool.not_eq_true'] at hok
      obtain ⟨⟨⟨⟨hr, hi⟩, hj⟩, hok1⟩, hok2⟩ := hok
      obtain ⟨h1, h2⟩ := h
      refine ⟨fun h0 => absurd h0 (by rw [hr]; simp), fun k hk => ?_⟩
      rw [hr] at hk
      simp only [List.mem_cons, List.not_mem_nil, or_false] at hk
      rcases hk with rfl | rfl
      · exact step_sound hS h1 (fun a' w' hS' h' => iht fuel _ _ _ hf'.1 (closed_set hcl (by rw [hr]; simp)) hok1 (fun _ => hS' hi) h')
      · exact step_sound hS h2 (fun a' w' hS' h' => ihu fuel _ _ _ hf'.2 (closed_set hcl (by rw [hr]; simp)) hok2 (fun _ => hS' hj) h')
  | three i t j u k v iht ihu ihv =>
    intro fuel listed a w hf hcl hok hS0 h
    have hS := hS0 rfl
    cases fuel with
    | zero => simp [Tr.depth] at hf
    | succ fuel =>
      have hf' : t.depth ≤ fuel ∧ u.depth ≤ fuel ∧ v.depth ≤ fuel := by simp [Tr.depth] at hf; omega
      simp only [okTr, Bool.and_eq_true, decide_eq_true_eq, Bool.not_eq_true'] at hok
      obtain ⟨⟨⟨⟨⟨⟨hr, hi⟩, hj⟩, hk'⟩, hok1⟩, hok2⟩, hok3⟩ := hok
      obtain ⟨h1, h2, h3⟩ := h
      refine ⟨fun h0 => absurd h0 (by rw [hr]; simp), fun m hm => ?_⟩
      rw [hr] at hm
      simp only [List.mem_cons, List.not_mem_nil, or_false] at hm
      rcases hm with rfl | rfl | rfl
      · exact step_sound hS h1 (fun a' w' hS' h' => iht fuel _ _ _ hf'.1 (closed_set hcl (by rw [hr]; simp)) hok1 (fun _ => hS' hi) h')
      · exact step_sound hS h2 (fun a' w' hS' h' => ihu fuel _ _ _ hf'.2.1 (closed_set hcl (by rw [hr]; simp)) hok2 (fun _ => hS' hj) h')
      · exact step_sound hS h3 (fun a' w' hS' h' => ihv fuel _ _ _ hf'.2.2 (closed_set hcl (by rw [hr]; simp)) hok3 (fun _ => hS' hk') h')

def treeOk (ops : Array Oper) (t : Tr) : Bool := Region.noSelect ops && decide (t.depth ≤ ops.size) && !t.isLeaf && okTr .any ops t (Array.replicate ops.size false)
/-- The beginning: the tree, checked by the kernel; S of the world at hand. -/
theorem wp_region_tree {id : Nat} {a : Act} {w : World} (t : Tr) (S : World → Prop) (hm : P.follows .mixedOrders = true) (hok : treeOk l.toArray t = true)
    (hQ : ∀ c a d v w, Q (.panic c) (Act.put a d v) w → Q (.panic c) a w) (hS : S w.drew) (h : wpTr P .any l Q S t a w.drew) : (Code.region id l.toArray true).wp P Q a w := by
  unfold treeOk at hok
  simp only [Bool.and_eq_true, decide_eq_true_eq] at hok
  obtain ⟨⟨⟨h1, h2⟩, _⟩, h3⟩ := hok
  exact wp_region_any hm (wpAny_of_R (S := S) _ _ _ _ (wpTr_sound h1 hQ t _ _ _ _ h2 (closed_none _) h3 (fun _ => hS) h))

theorem tr_skip {i : Nat} {t : Tr} {o : Oper} {a : Act} {w : World} (ho : l[i]? = some o) (hw : Region.wanted o (yielded l.toArray a.tmps) = false)
    (h : wpTr P md l Q S t (a.put o.dst undef) w) : wpTr P md l Q S (.read i t) a w := by
  simp only [wpTr, ho]; exact .inl ⟨hw, h⟩
theorem tr_read {i : Nat} {t : Tr} {o : Oper} {a : Act} {w : World} (ho : l[i]? = some o) (hw : Region.wanted o (yielded l.toArray a.tmps) = true) (v : Value)
    (hv : ∀ w', S w' → (execOp a.eval o).run P w' = .ok (.value v) w') (h : wpTr P md l Q S t (a.put o.dst v) w) : wpTr P md l Q S (.read i t) a w := by
  simp only [wpTr, ho]; exact .inr ⟨hw, v, hv, h⟩
theorem tr_step {i : Nat} {T : Act → World → Prop} {o : Oper} {a : Act} {w : World} (ho : l[i]? = some o) (hw : Region.wanted o (yielded l.toArray a.tmps) = true)
    (h : ∀ K : Act → World → Prop, (∀ a w, S w → T a w → K a w) → o.wp P a w K Q) : stepTr P md l Q S i T a w := by
  simp only [stepTr, ho]; exact .inr ⟨hw, by simpa using h _ (fun a w hS h => ⟨fun _ => hS, fun _ => h⟩)⟩
/-- The last one, which waits for all others. -/
theorem tr_last {i : Nat} {T : Act → World → Prop} {o : Oper} {a : Act} {w : World} (ho : l[i]? = some o) (hw : Region.wanted o (yielded l.toArray a.tmps) = true) (hf : finalOp md l.toArray i = true)
    (h : ∀ K : Act → World → Prop, (∀ a w, T a w → K a w) → o.wp P a w K Q) : stepTr P md l Q S i T a w := by
  simp only [stepTr, ho]; exact .inr ⟨hw, by simpa [hf] using h T (fun a w h => h)⟩
theorem tr_none {i : Nat} {T : Act → World → Prop} {o : Oper} {a : Act} {w : World} (ho : l[i]? = some o) (hw : Region.wanted o (yielded l.toArray a.tmps) = false) (h : T (a.put o.dst undef) w) : stepTr P md l Q S i T a w := by
  simp only [stepTr, ho]; exact .inl ⟨hw, h⟩
end
end Go.Proofs.YtdkegkacpdkjgaaGreat

/- Small words for the walk along a tree. -/
namespace Go.Proofs.YtdkegkacpdkjgaaGreat
open Go.RowKit

def Two (g : Nat) (a b : Int) (X : World) : Prop := X.cell? ⟨g, 0, none⟩ = some (.int .i64 a) ∧ X.cell? ⟨g, 1, none⟩ = some (.int .i64 b)
theorem Two.grown {g : Nat} {a b : Int} {X X' : World} (k : Two g a b X) (hb : Below X.heap.size X X') : Two g a b X' := ⟨cellB k.1 hb, cellB k.2 hb⟩
theorem Two.lt2 {g : Nat} {a b : Int} {X : World} (k : Two g a b X) : g < X.heap.size := World.block_lt_of_cell? _ _ k.1
theorem Slots.lt2 {g : Nat} {X : World} (k : Slots g 2 X) : g < X.heap.size := by
  obtain ⟨v, h, _⟩ := k.get 0 (by omega)
  exact World.block_lt_of_cell? _ _ h
theorem slots_new2 (w : World) (t : TypeId) : Slots w.heap.size 2 (w.alloc (.cells #[.int .i64 0, .int .i64 0] t)) := by
  intro o ho
  have : o = 0 ∨ o = 1 := by omega
  rcases this with rfl | rfl <;> simp [go_sem]
theorem two_set {g : Nat} {X : World} (h : Slots g 2 X) (x y : Int) : Two g x y ((X.setCell ⟨g, 0, none⟩ (.int .i64 x)).setCell ⟨g, 1, none⟩ (.int .i64 y)) := by
  obtain ⟨u, q, _⟩ := h.get 0 (by omega)
  obtain ⟨v, r, _⟩ := h.get 1 (by omega)
  constructor
  · rw [World.cell?_setCell_other _ _ _ _ (by simp), World.cell?_setCell_same _ _ _ q]
  · refine World.cell?_setCell_same _ _ _ (u := v) ?_
    rw [World.cell?_setCell_other _ _ _ _ (by simp)]; exact r
theorem Two.far {g g' : Nat} {a b : Int} {X : World} (k : Two g a b X) (hne : g ≠ g') (x y : Int) : Two g a b ((X.setCell ⟨g', 0, none⟩ (.int .i64 x)).setCell ⟨g', 1, none⟩ (.int .i64 y)) := by
  constructor
  · rw [World.cell?_setCell_other _ _ _ _ (fun e => hne (by injection e with e; exact e.symm)), World.cell?_setCell_other _ _ _ _ (fun e => hne (by injection e with e; exact e.symm))]; exact k.1
  · rw [World.cell?_setCell_other _ _ _ _ (fun e => hne (by injection e with e; exact e.symm)), World.cell?_setCell_other _ _ _ _ (fun e => hne (by injection e with e; exact e.symm))]; exact k.2
end Go.Proofs.YtdkegkacpdkjgaaGreat
