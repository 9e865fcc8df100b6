/- A plate that came in, opened to lists; and a law's last step: what came in reads as before. -/
import Derived.Test.YtdkegkacpdkjgaaGreatRows
import Derived.Test.YtdkegkacpdkjgaaGreatPst
import Derived.ProofKit
import Derived.OpenShut
import Derived.Below
import Derived.ChangeSame
import Derived.Deep.Slices
import Derived.Deep.MidRow
import Derived.WideKeyArgs
namespace Go.Proofs.YtdkegkacpdkjgaaGreat
open Go.ChangeShapes Go.WideShapes Go.ChangeAt Go.RowKit

section
variable {H : Type} {enc : TypeId × Value → H} {w : World} {base : Nat} {spare : Nat → Bool} {held : Bool}

def Rng (n : Int) : Prop := -9223372036854775808 ≤ n ∧ n ≤ 9223372036854775807
theorem rng_of {n : Int} (h : (Lit.int .i64 n).wf = true) : Rng n := by
  have e1 : IntKind.i64.min = -9223372036854775808 := by decide
  have e2 : IntKind.i64.max = 9223372036854775807 := by decide
  simp only [Lit.wf, e1, e2, Bool.and_eq_true, decide_eq_true_eq] at h
  exact h
theorem spot_of {w : World} {a : Addr} {v : Value} (h : w.cell? a = some v) : a = ⟨a.block, a.off, none⟩ := by
  obtain ⟨b, o, s⟩ := a
  unfold World.cell? at h
  split at h
  · cases s with
    | none => rfl
    | some s => simp at h
  · cases h
theorem take_one {α : Type} {l : List α} {k : Nat} (hk : k < l.length) : (l.drop k).take 1 = [l[k]] := by
  rw [List.drop_eq_getElem_cons hk]; rfl

set_option maxRecDepth 100000 in
theorem open_spanD {fuel : Nat} {cs : List Value} {x : DataW H × List MemPlace} (h : DataW.trod enc Tryz.prog w base spare held fuel 23 cs = some x) :
    ∃ lo hi : Int, cs = [.int .i64 lo, .int .i64 hi] := by
  obtain ⟨xs, n, _, _, hl, hxl, hf⟩ := DataW.trod_struct Tryz.underlying23 h
  have hl2 : cs.length = 2 := by rw [hl]; kernel_rfl
  have h0 := hf 0 _ rfl
  have h1 := hf 1 _ rfl
  have hx2 : xs.length = 2 := hxl
  have c1 : Tryz.prog.cellsOf 3 = 1 := by kernel_rfl
  simp only [List.getElem_toArray, List.getElem_cons_zero, List.getElem_cons_succ] at h0 h1
  rw [c1] at h0 h1
  rw [take_one (by omega), List.getElem?_eq_getElem (by omega)] at h0 h1
  obtain ⟨a, ha, _⟩ := DataW.trod_int Tryz.underlying3 h0
  obtain ⟨b, hb, _⟩ := DataW.trod_int Tryz.underlying3 h1
  match cs, hl2 with
  | [u, v], _ =>
    simp at ha hb
    exact ⟨a, b, by rw [ha, hb]⟩
set_option maxRecDepth 100000 in
theorem open_starD {fuel : Nat} {cs : List Value} {x : DataW H × List MemPlace} (h : DataW.trod enc Tryz.prog w base spare held fuel 60 cs = some x) :
    ∃ s : St, cs = s.cells.toList := by
  obtain ⟨xs, n, _, _, hl, hxl, hf⟩ := DataW.trod_struct Tryz.underlying60 h
  have hl2 : cs.length = 9 := by rw [hl]; kernel_rfl
  have h0 := hf 0 _ rfl
  have h1 := hf 1 _ rfl
  have h2 := hf 2 _ rfl
  have h3 := hf 3 _ rfl
  have h4 := hf 4 _ rfl
  have hx2 : xs.length = 5 := hxl
  have c1 : Tryz.prog.cellsOf 4 = 1 := by kernel_rfl
  have c2 : Tryz.prog.cellsOf 23 = 2 := by kernel_rfl
  simp only [List.getElem_toArray, List.getElem_cons_zero, List.getElem_cons_succ] at h0 h1 h2 h3 h4
  rw [c2] at h0 h1 h3 h4; rw [c1] at h2
  rw [List.getElem?_eq_getElem (by omega)] at h0 h1 h2 h3 h4
  obtain ⟨a, b, e0⟩ := open_spanD h0
  obtain ⟨c, d, e1⟩ := open_spanD h1
  obtain ⟨k, e2, _⟩ := DataW.trod_bool Tryz.underlying4 h2
  obtain ⟨e, f, e3⟩ := open_spanD h3
  obtain ⟨g, i, e4⟩ := open_spanD h4
  match cs, hl2 with
  | [v0, v1, v2, v3, v4, v5, v6, v7, v8], _ =>
    simp at e0 e1 e2 e3 e4
    exact ⟨⟨a, b, c, d, k, e, f, g, i⟩, by simp [St.cells, e0, e1, e2, e3, e4]⟩
/-- The stars lie in memory. -/
def StarsIn (w : World) (a : Option Addr) (ss : List St) : Prop := ss = [] ∨ ∃ b o, a = some ⟨b, o, none⟩ ∧ b < w.heap.size ∧ ∀ i, i < ss.length → StAt (ss.getD i default) b (o + i * 9) w
theorem open_starsD {fuel : Nat} {cs : List Value} {x : DataW H × List MemPlace} (h : DataW.trod enc Tryz.prog w base spare held fuel 24 cs = some x) :
    ∃ (a : Option Addr) (cap : Nat) (ss : List St), cs = [.slice a ss.length cap] ∧ StarsIn w a ss ∧ ss.length ≤ 9223372036854775807 := by
  rcases Deep.open_slice Tryz.underlying24 h with ⟨rfl, _⟩ | ⟨a, len, cap, m, n, D, Pl, rfl, _, hl, hm, hmm, _, hi⟩
  · exact ⟨none, 0, [], rfl, .inl rfl, by decide⟩
  · have hle : len ≤ m := by rw [hmm]; split <;> omega
    have c9 : Tryz.prog.cellsOf 60 = 9 := by kernel_rfl
    rw [c9] at hi
    have hex : ∀ i, ∃ s : St, i < len → ∀ j v, s.cells.toList[j]? = some v → w.cell? (a.add (i * 9 + j)) = some v := fun i => by
      by_cases hil : i < len
      · obtain ⟨cs', hc, ht⟩ := hi i (by omega)
        obtain ⟨s, rfl⟩ := open_starD ht
        obtain ⟨_, _, hat⟩ := World.cells?_some hc
        refine ⟨s, fun _ j v hv => ?_⟩
        have hj : j < 9 := by have := (List.getElem?_eq_some_iff.1 hv).1; simpa [St.cells] using this
        have aj := hat j (by omega)
        rw [Addr.add_add] at aj
        rw [aj]; exact hv
      · exact ⟨default, fun h => absurd h hil⟩
    obtain ⟨f, hf⟩ := Classical.axiomOfChoice hex
    have hxl : ((List.range len).map f).length = len := by simp
    refine ⟨some a, cap, (List.range len).map f, by rw [hxl], ?_, by rw [hxl]; unfold maxLen at hm; omega⟩
    by_cases h0 : len = 0
    · subst h0; exact .inl rfl
    · have hz := hf 0 (by omega) 0 _ rfl
      have ha : a = ⟨a.block, a.off, none⟩ := by
        have := spot_of hz
        simp [Addr.add] at this
        obtain ⟨b, o, s⟩ := a
        simp at this
        subst this; rfl
      refine .inr ⟨a.block, a.off, by rw [← ha], ?_, fun k hk => ?_⟩
      · have := World.block_lt_of_cell? _ _ hz
        simpa [Addr.add] using this
      · rw [hxl] at hk
        have hc := hf k hk
        rw [ha] at hc
        simp only [Addr.add_mid] at hc
        have e : ((List.range len).map f).getD k default = f k := by simp [List.getD, hk]
        rw [e]
        have hz : ∀ j v, (f k).cells.toList[j]? = some v → w.cell? ⟨a.block, a.off + k * 9 + j, none⟩ = some v := fun j v hv => by rw [Nat.add_assoc]; exact hc j v hv
        exact ⟨hz 0 _ rfl, hz 1 _ rfl, hz 2 _ rfl, hz 3 _ rfl, hz 4 _ rfl, hz 5 _ rfl, hz 6 _ rfl, hz 7 _ rfl, hz 8 _ rfl⟩
set_option maxRecDepth 100000 in
/-- A plate that came in. -/
theorem open_plate {r : Reach} {b0 : Nat} {v : Value} {d : DataW H} {p : List MemPlace} (hval : Value.okWide Tryz.prog w r b0 26 v) (h : DataW.Trod enc Tryz.prog w base spare held 26 v d p) :
    ∃ (q : Pl) (ss : List St), v = q.val ∧ ss.length = q.n ∧ StarsIn w q.a ss := by
  obtain ⟨cs, rfl, hsz⟩ := okWide_struct Tryz.underlying26 hval
  obtain ⟨fuel, h⟩ := h
  simp only [Value.cells] at h
  obtain ⟨xs, n, _, _, hl, hxl, hf⟩ := DataW.trod_struct Tryz.underlying26 h
  have c29 : Tryz.prog.cellsOf 26 = 3 := by kernel_rfl
  have c24 : Tryz.prog.cellsOf 23 = 2 := by kernel_rfl
  have c27 : Tryz.prog.cellsOf 24 = 1 := by kernel_rfl
  rw [c29] at hl
  have hx5 : xs.length = 2 := hxl
  have f0 := hf 0 _ rfl
  have f1 := hf 1 _ rfl
  simp only [List.getElem_toArray, List.getElem_cons_zero, List.getElem_cons_succ] at f0 f1
  rw [c24] at f0; rw [c27] at f1
  rw [List.getElem?_eq_getElem (by omega)] at f0 f1
  obtain ⟨lo, hi, hsc⟩ := open_spanD f0
  obtain ⟨sa, scap, ss, hss, hS, hsl⟩ := open_starsD f1
  have hcl : cs.toList.length = 3 := hl
  obtain ⟨l⟩ := cs
  dsimp only at hcl hsc hss
  match l, hcl with
  | [v0, v1, v2], _ =>
    simp at hsc hss
    refine ⟨⟨lo, hi, sa, ss.length, scap⟩, ss, ?_, rfl, hS⟩
    unfold Pl.val
    simp [hsc, hss]
theorem plAt_of {q : Pl} {ss : List St} (hn : ss.length = q.n) (h : StarsIn w q.a ss) (hb : q.n ≤ 1000000000) : PlAt q ss w := ⟨hn, hb, h⟩

/-- What came in reads as before where nothing that lay there has changed. -/
theorem below_same {W W' : World} (hb : Below W.heap.size W W') : ∀ p : MemPlace, p.block < W.heap.size → W.sameAt W' p
  | .cell b o, h => hb.cell (p := ⟨b, o, none⟩) h
  | .map b, h => hb.block b h
theorem all_stays {W W' : World} {sp' : Nat → Bool} : ∀ {ts : List TypeId} {vs : List Value} {ds : List (DataW H)} {ps : List MemPlace}, (∀ t ∈ ts, Tryz.prog.readableRec t = true ∧ t < Tryz.prog.types.size) →
    DataW.TrodAll enc Tryz.prog W 0 (fun _ => true) true ts vs ds ps → (∀ p ∈ ps, W.sameAt W' p) → (∀ p ∈ ps, sp' p.block = true) → DataW.TrodAll enc Tryz.prog W' 0 sp' true ts vs ds ps
  | [], [], [], _, _, h, _, _ => h
  | t :: _, _ :: _, _ :: _, _, hr, ⟨p, q, h1, h2, e⟩, hs, hp => ⟨p, q,
      WideElems.Trod_stays (by kernel_rfl) (hr t (List.mem_cons.2 (.inl rfl))).1 (hr t (List.mem_cons.2 (.inl rfl))).2 h1 (fun x hx => hs x (by rw [e]; exact List.mem_append_left _ hx)) (fun x hx => hp x (by rw [e]; exact List.mem_append_left _ hx)),
      all_stays (fun u hu => hr u (List.mem_cons.2 (.inr hu))) h2 (fun x hx => hs x (by rw [e]; exact List.mem_append_right _ hx)) (fun x hx => hp x (by rw [e]; exact List.mem_append_right _ hx)), e⟩
set_option maxRecDepth 100000 in
/-- The last step of a law. -/
theorem law_last {f : Func} {s : ChangeSpec} {W W' : World} {args : Array Value} {ds gs : List (DataW H)} {before : List MemPlace} (hv : s.vars = []) (hr : ∀ t ∈ f.params.toList, Tryz.prog.readableRec t = true ∧ t < Tryz.prog.types.size)
    (hres : ∀ (b : Nat) (sp : Nat → Bool) (hd : Bool), DataW.TrodAll enc Tryz.prog W' b sp hd f.resultTypes.toList ((Value.bool true).resultList f.resultTypes.size) [.lit (.bool true)] [])
    (hok : ∀ (j : Nat) (t : TypeId) (r : Value), f.resultTypes[j]? = some t → ((Value.bool true).resultList f.resultTypes.size)[j]? = some r → Value.okWide Tryz.prog W' .any 0 t r)
    (hW : DataW.Whole enc Tryz.prog f.params.toList s.vars false W args.toList ds gs before)
    (hf1 : (s.fn H (ds ++ gs)).results = [.lit (.bool true)]) (hf2 : (s.fn H (ds ++ gs)).args = ds) (hf3 : (s.fn H (ds ++ gs)).vars = [])
    (hb : Below W.heap.size W W') : s.post enc Tryz.prog f false true false false W args (.bool true) W' := by
  have hlt : ∀ p ∈ before, p.block < W.heap.size := fun p hp => hW.lt p hp
  have hW0 := hW
  obtain ⟨p, q, hA, hV, rfl, hz, hn⟩ := hW
  rw [hv] at hV
  obtain ⟨rfl, rfl⟩ := trodVars_none hV
  have hsame : ∀ x ∈ p, W.sameAt W' x := fun x hx => below_same hb x (hlt x (by simpa using hx))
  have hold : ∀ x ∈ p, (fun b => decide (b < W.heap.size)) x.block = true := fun x hx => by simpa using hlt x (by simpa using hx)
  have ha : ∀ sp : Nat → Bool, (∀ x ∈ p, sp x.block = true) → DataW.TrodAll enc Tryz.prog W' 0 sp true f.params.toList args.toList (s.fn H (ds ++ [])).args p := fun sp hsp => by
    rw [hf2]; exact all_stays hr hA hsame hsp
  have hvars : ∀ sp : Nat → Bool, DataW.TrodVars enc Tryz.prog W' sp s.vars (s.fn H (ds ++ [])).vars [] := fun sp => by
    rw [hf3, hv]; exact hV
  have hres' : ∀ (b : Nat) (sp : Nat → Bool) (hd : Bool), DataW.TrodAll enc Tryz.prog W' b sp hd f.resultTypes.toList ((Value.bool true).resultList f.resultTypes.size) (s.fn H (ds ++ [])).results [] := fun b sp hd => by
    rw [hf1]; exact hres b sp hd
  refine ⟨ds, [], p ++ [], [], p, [], hW0, hres' _ _ _, ha _ hold, hvars _, hb.frame _, fun _ => ?_⟩
  refine ⟨hok, (s.fn H (ds ++ [])).results ++ (s.fn H (ds ++ [])).args, (s.fn H (ds ++ [])).vars, p ++ [], ⟨p, [], ?_, hvars _, rfl, ?_, ?_⟩, ?_⟩
  · have := trodAll_append (ha (fun _ => true) (fun _ _ => rfl)) (hres' 0 (fun _ => true) true)
    simpa using this
  · intro b o hp
    rw [hb.frozen (p := ⟨b, o, none⟩) (hlt _ hp)]
    exact hz b o hp
  · intro h; cases h
  · intro x hx _; exact hx
end
end Go.Proofs.YtdkegkacpdkjgaaGreat
