/- 'PlateTrue': for every slice of numbers, in whatever memory, on every order of evaluation that Go leaves open: the call returns true, and what came in reads as before. No condition. -/
import Derived.Test.YtdkegkacpdkjgaaPar
import Derived.Test.YtdkegkacpdkjgaaTruC
import Derived.OpenShut
namespace Go.Proofs.Ytdkegkacpdkjgaa.PlateTrueRow
open Go.ChangeShapes Go.WideShapes Go.ChangeAt Go.RowKit

theorem own : ownKnob Try.prog.godebug = none := by kernel_rfl
theorem c54 : Try.prog.cellsOf 57 = 1 := by kernel_rfl
theorem maxE : IntKind.u16.max = 65535 := by decide
theorem minE : IntKind.u16.min = 0 := by decide
set_option maxRecDepth 100000 in
/-- A slice of numbers that came in. -/
theorem open_by {H : Type} {enc : TypeId × Value → H} {w : World} {base : Nat} {spare : Nat → Bool} {held : Bool} {r : Reach} {b0 : Nat} {v : Value} {d : DataW H} {p : List MemPlace} (hval : Value.okWide Try.prog w r b0 37 v) (h : DataW.Trod enc Try.prog w base spare held 37 v d p) :
    ∃ (a : Option Addr) (n cap : Nat), v = .slice a n cap ∧ n ≤ 9223372036854775807 ∧ (n = 0 ∨ ∃ yb yo, a = some ⟨yb, yo, none⟩ ∧ yb < w.heap.size ∧ ∀ k, k < n → ∃ u : Int, w.cell? ⟨yb, yo + k, none⟩ = some (.int .u16 u) ∧ 0 ≤ u ∧ u ≤ 65535) := by
  obtain ⟨a0, len, cap, rfl⟩ := okWide_slice Try.underlying37 hval
  obtain ⟨fuel, hf⟩ := h
  refine ⟨a0, len, cap, rfl, ?_⟩
  rcases open_ints Try.underlying37 Try.underlying57 c54 hf with ⟨hcs, hx⟩ | ⟨a, len', cap', zs, hcs, _, hl, hm, hz, hx, hcell, hwz⟩
  · simp [Value.cells] at hcs
    obtain ⟨_, h1, _⟩ := hcs
    exact ⟨by omega, .inl (by omega)⟩
  · simp [Value.cells] at hcs
    obtain ⟨h1, h2, h3⟩ := hcs
    subst h1; subst h2; subst h3
    unfold maxLen at hm
    refine ⟨by omega, ?_⟩
    by_cases h0 : len = 0
    · exact .inl h0
    · right
      have hzl : len ≤ zs.length := by rw [hz]; split <;> omega
      obtain ⟨b, off, e, hc⟩ := ints_at hcell (by omega)
      subst e
      have hb : b < w.heap.size := World.block_lt_of_cell? _ _ (hc 0 (by omega))
      refine ⟨b, off, rfl, hb, fun k hk => ⟨zs.getD k 0, hc k (by omega), ?_⟩⟩
      have hw := hwz (zs.getD k 0) (by rw [List.getD_eq_getElem?_getD, List.getElem?_eq_getElem (show k < zs.length by omega)]; exact List.getElem_mem _)
      simp only [Lit.wf, minE, maxE, Bool.and_eq_true, decide_eq_true_eq] at hw
      exact hw

set_option maxRecDepth 100000 in
theorem lifted (os : Os) (started : os.Started) (H : Type) (enc : TypeId × Value → H) :
    ReturnsInHanded {} Try.checked os 4 .any (Rows.plateTrueSpec.pre6 enc Try.prog Try.f4 Rows.plateTrueRow.domain false) (Rows.plateTrueSpec.post enc Try.prog Try.f4 false true false false) := by
  refine returnsInHanded_of_change (C := Try.checked) own started (by kernel_rfl) Try.func4
    (ChangeSpec.witness6 (enc := enc) (C := Try.checked) false ⟨#[], #[.slice none 0 0], []⟩ 8 (by kernel_rfl) (by kernel_rfl) (by kernel_rfl) (by kernel_rfl)) ?_
  intro W base args ds gs before hval0 hW hcnd _
  have hval : ∀ (j : Nat) t v, Try.f4.params[j]? = some t → args[j]? = some v → Value.okWide Try.prog W .any base t v := hval0
  have hW' := hW
  obtain ⟨p, q, hA0, hV, rfl, hfz, hnd⟩ := hW
  have hA : DataW.TrodAll enc Try.prog W 0 (fun _ => true) true Try.f4.params.toList args.toList ds p := hA0
  rw [Try.params4] at hA hval
  obtain ⟨v0, vs0, d0, ds0, p0, q0, hargs, rfl, rfl, h0, r0⟩ := trodAll_cons hA
  obtain ⟨rfl, rfl, rfl⟩ := trodAll_nil r0
  obtain rfl : args = #[v0] := Array.toList_inj.1 (by simpa using hargs)
  obtain ⟨a, n, cap, rfl, hn, hy⟩ := open_by (hval 0 37 v0 rfl rfl) h0
  obtain ⟨rfl, rfl⟩ := trodVars_none hV
  refine (true_walk a n cap W hy hn).mono fun e W' ⟨he, hb⟩ => ?_
  subst he
  refine ⟨_, rfl, law_last rfl (by decide +kernel) (fun _ _ _ => trodAll_cons_mk (shut_bool Try.underlying4 _) trodAll_mk0) (ok_one (by kernel_rfl) rfl (okWide_bool_mk Try.underlying4 _)) hW' rfl rfl rfl hb⟩

theorem over : Rows.plateTrueRow.holds Try.pinned (OpenSpec.ofChange Rows.plateTrueSpec) :=
  OpenClaim.holds_of_wide 4 Try.f4 rfl rfl rfl rfl rfl rfl rfl ⟨rfl, rfl, rfl, rfl, rfl⟩ rfl rfl rfl rfl rfl (by kernel_rfl) Try.func4 (by kernel_rfl)
    (of_decide_eq_true (by kernel_rfl)) (by unfold Func.isWrapper; first | (rw [if_pos (by decide +kernel)]; kernel_rfl) | (rw [if_neg (by decide +kernel)]; exact ⟨rfl, rfl⟩))
    (fun os started H enc _ => lifted os started H enc)

theorem plateTrue_holds : Rows.PlateTrueSaid := over
#print axioms plateTrue_holds
end Go.Proofs.Ytdkegkacpdkjgaa.PlateTrueRow
