/- The examples hold: what the statements call alive. -/
import Derived.Test.YtmfbkgdlfackcaaExa
namespace Go.Proofs.Ytmfbkgdlfackcaa
open Go.RowKit

set_option maxRecDepth 100000 in
set_option maxHeartbeats 4000000 in
theorem alive_any (w : World) : Calls Try.prog 15 #[] w (Ret (.bool true) w) := by
  have hfi : ∀ (v0 v1 v2 v3 v4 v5 v6 : Value) (w : World), (Instr.field 29 (.agg #[v0, v1, v2, v3, v4, v5, v6]) 0).run Try.prog w = .ok (.agg #[v0, v1, v2]) w := fun _ _ _ _ _ _ _ _ => by kernel_rfl
  go_enter Try.func15, Try.ntmps15
  go_wp2_with fail
  refine (sample_nil _).mono ?_
  rintro e w1 ⟨a, sa, n, cap, ns, scap, rfl, hm, hbw1⟩
  unfold Hd.val
  go_wp2_with fail
  refine (exTravel a sa n cap ns scap _ _ hm).mono ?_
  rintro e v1 ⟨rfl, hbv1⟩
  clear hm
  go_wp2_with fail
  refine (sample_nil _).mono ?_
  rintro e w2 ⟨a, sa, n, cap, ns, scap, rfl, hm, hbw2⟩
  unfold Hd.val
  go_wp2_with fail
  refine (exSum a sa n cap ns scap _ hm).mono ?_
  rintro e v2 ⟨rfl, hbv2⟩
  clear hm
  go_wp2_with fail
  refine (sample_nil _).mono ?_
  rintro e w3 ⟨a, sa, n, cap, ns, scap, rfl, hm, hbw3⟩
  unfold Hd.val
  go_wp2_with fail
  refine (exPlace1 a sa n cap ns scap _ hm).mono ?_
  rintro e v3 ⟨rfl, hbv3⟩
  clear hm
  go_wp2_with fail
  refine (sample_nil _).mono ?_
  rintro e w4 ⟨a, sa, n, cap, ns, scap, rfl, hm, hbw4⟩
  unfold Hd.val
  go_wp2_with fail
  refine (exApart01 a sa n cap ns scap _ hm).mono ?_
  rintro e v4 ⟨rfl, hbv4⟩
  clear hm
  go_wp2_with fail
  refine (fifth_any _).mono ?_
  rintro e u5 ⟨rfl, hbu5⟩
  go_wp2_with fail
  refine (sample_one _ _ (by simp [go_sem]) (by simp [go_sem]) (by simp [go_sem])).mono ?_
  rintro e w5 ⟨a, sa, n, cap, ns, scap, rfl, hm, hbw5⟩
  unfold Hd.val
  go_wp2_with fail
  refine (exClash5 a sa n cap ns scap _ hm).mono ?_
  rintro e v5 ⟨rfl, hbv5⟩
  clear hm
  go_wp2_with fail
  refine (fifth_any _).mono ?_
  rintro e u6 ⟨rfl, hbu6⟩
  go_wp2_with fail
  refine (sample_one _ _ (by simp [go_sem]) (by simp [go_sem]) (by simp [go_sem])).mono ?_
  rintro e w6 ⟨a, sa, n, cap, ns, scap, rfl, hm, hbw6⟩
  unfold Hd.val
  go_wp2_with fail
  refine (exDrop5 a sa n cap ns scap _ hm).mono ?_
  rintro e v6 ⟨rfl, hbv6⟩
  clear hm
  go_wp2_with fail
  have hA4 := BT (BT (BA (BT (BT (BT (BA hbu5 (.cells #[.int .i64 0, .int .i64 520, .bool false] 44)) hbw5) hbv5) hbu6) (.cells #[.int .i64 0, .int .i64 520, .bool false] 44)) hbw6) hbv6
  have hA3 := BT (BA (BT hbw4 hbv4) (.cells #[.int .i64 706, .int .i64 713] 24)) hA4
  have hA2 := BT (BA (BT hbw3 hbv3) (.cells #[.int .i64 1201, .int .i64 1208] 24)) hA3
  have hA1 := BT (BA (BT hbw2 hbv2) (.cells #[.int .i64 2997, .int .i64 3004] 24)) hA2
  have hA0 := BT (BA (BT hbw1 hbv1) (.cells #[.int .i64 1197, .int .i64 1208] 24)) hA1
  have c10 : v6.drew.cell? ⟨v1.heap.size, 0, none⟩ = some (.int .i64 1197) := cellG (two_newT v1 1197 1208 24).1 (Below.drew hA1)
  have c11 : v6.drew.cell? ⟨v1.heap.size, 1, none⟩ = some (.int .i64 1208) := cellG (two_newT v1 1197 1208 24).2 (Below.drew hA1)
  have c20 : v6.drew.cell? ⟨v2.heap.size, 0, none⟩ = some (.int .i64 2997) := cellG (two_newT v2 2997 3004 24).1 (Below.drew hA2)
  have c21 : v6.drew.cell? ⟨v2.heap.size, 1, none⟩ = some (.int .i64 3004) := cellG (two_newT v2 2997 3004 24).2 (Below.drew hA2)
  have c30 : v6.drew.cell? ⟨v3.heap.size, 0, none⟩ = some (.int .i64 1201) := cellG (two_newT v3 1201 1208 24).1 (Below.drew hA3)
  have c31 : v6.drew.cell? ⟨v3.heap.size, 1, none⟩ = some (.int .i64 1208) := cellG (two_newT v3 1201 1208 24).2 (Below.drew hA3)
  have c40 : v6.drew.cell? ⟨v4.heap.size, 0, none⟩ = some (.int .i64 706) := cellG (two_newT v4 706 713 24).1 (Below.drew hA4)
  have c41 : v6.drew.cell? ⟨v4.heap.size, 1, none⟩ = some (.int .i64 713) := cellG (two_newT v4 706 713 24).2 (Below.drew hA4)
  have hD : Below w.heap.size w v6.drew := Below.drew hA0
  clear hA0 hA1 hA2 hA3 hA4 hbw1 hbv1 hbw2 hbv2 hbw3 hbv3 hbw4 hbv4 hbu5 hbw5 hbv5 hbu6 hbw6 hbv6
  generalize v1.heap.size = b1 at *
  generalize v2.heap.size = b2 at *
  generalize v3.heap.size = b3 at *
  generalize v4.heap.size = b4 at *
  refine wp_region_seq [(0, true), (1, false), (2, true), (3, true), (4, true), (5, true), (6, true), (7, true), (8, true), (9, false), (10, true), (11, true), (12, true), (13, true), (14, true), (15, true), (16, true), (17, true), (18, false), (19, true), (20, true), (21, true), (22, true), (23, true), (24, true), (25, true), (26, true), (27, false), (28, true), (29, true), (30, true), (31, true), (32, true), (33, true), (34, true), (35, true), (36, true), (37, true), (38, true), (39, true), (40, true), (41, true), (42, true), (43, true), (44, true), (45, true), (46, true), (47, true), (48, true), (49, true), (50, true)]
    (fun w' => w'.cell? ⟨b1, 0, none⟩ = some (.int .i64 1197) ∧ w'.cell? ⟨b1, 1, none⟩ = some (.int .i64 1208) ∧ w'.cell? ⟨b2, 0, none⟩ = some (.int .i64 2997) ∧ w'.cell? ⟨b2, 1, none⟩ = some (.int .i64 3004) ∧ w'.cell? ⟨b3, 0, none⟩ = some (.int .i64 1201) ∧ w'.cell? ⟨b3, 1, none⟩ = some (.int .i64 1208) ∧ w'.cell? ⟨b4, 0, none⟩ = some (.int .i64 706) ∧ w'.cell? ⟨b4, 1, none⟩ = some (.int .i64 713)) (by kernel_rfl) (by kernel_rfl) (fun _ _ d _ _ h => by cases d <;> exact h) ⟨c10, c11, c20, c21, c30, c31, c40, c41⟩ ?_
  repeat (first | (refine seq_read rfl (by rfl) _ (fun w' hS => by (try dsimp only at hS); go_simp; (try with_reducible rfl)) ?_; (try simp only [Act.put, List.setIfInBounds_toArray, List.set_cons_zero, List.set_cons_succ])) | (refine seq_skip rfl (by rfl) ?_; (try simp only [Act.put, List.setIfInBounds_toArray, List.set_cons_zero, List.set_cons_succ])))
  (refine seq_do rfl (by rfl) (fun K hK => ?_); go_simp)
  refine (spanL_any _ _ _).mono ?_
  rintro e x1 ⟨rfl, hx1⟩
  have d110 := cellG c10 hx1; have d111 := cellG c11 hx1; have d120 := cellG c20 hx1; have d121 := cellG c21 hx1; have d130 := cellG c30 hx1; have d131 := cellG c31 hx1; have d140 := cellG c40 hx1; have d141 := cellG c41 hx1
  have hE1 := BT hD hx1
  refine hK _ _ ⟨d110, d111, d120, d121, d130, d131, d140, d141⟩ ?_
  clear hK K hD hx1 c10 c11 c20 c21 c30 c31 c40 c41
  repeat (first | (refine seq_read rfl (by rfl) _ (fun w' hS => by (try dsimp only at hS); go_simp; (try with_reducible rfl)) ?_; (try simp only [Act.put, List.setIfInBounds_toArray, List.set_cons_zero, List.set_cons_succ])) | (refine seq_skip rfl (by rfl) ?_; (try simp only [Act.put, List.setIfInBounds_toArray, List.set_cons_zero, List.set_cons_succ])))
  (refine seq_do rfl (by rfl) (fun K hK => ?_); go_simp)
  refine (spanL_any _ _ _).mono ?_
  rintro e x2 ⟨rfl, hx2⟩
  have d210 := cellG d110 hx2; have d211 := cellG d111 hx2; have d220 := cellG d120 hx2; have d221 := cellG d121 hx2; have d230 := cellG d130 hx2; have d231 := cellG d131 hx2; have d240 := cellG d140 hx2; have d241 := cellG d141 hx2
  have hE2 := BT hE1 hx2
  refine hK _ _ ⟨d210, d211, d220, d221, d230, d231, d240, d241⟩ ?_
  clear hK K hE1 hx2 d110 d111 d120 d121 d130 d131 d140 d141
  repeat (first | (refine seq_read rfl (by rfl) _ (fun w' hS => by (try dsimp only at hS); go_simp; (try with_reducible rfl)) ?_; (try simp only [Act.put, List.setIfInBounds_toArray, List.set_cons_zero, List.set_cons_succ])) | (refine seq_skip rfl (by rfl) ?_; (try simp only [Act.put, List.setIfInBounds_toArray, List.set_cons_zero, List.set_cons_succ])))
  (refine seq_do rfl (by rfl) (fun K hK => ?_); go_simp)
  refine (spanL_any _ _ _).mono ?_
  rintro e x3 ⟨rfl, hx3⟩
  have d310 := cellG d210 hx3; have d311 := cellG d211 hx3; have d320 := cellG d220 hx3; have d321 := cellG d221 hx3; have d330 := cellG d230 hx3; have d331 := cellG d231 hx3; have d340 := cellG d240 hx3; have d341 := cellG d241 hx3
  have hE3 := BT hE2 hx3
  refine hK _ _ ⟨d310, d311, d320, d321, d330, d331, d340, d341⟩ ?_
  clear hK K hE2 hx3 d210 d211 d220 d221 d230 d231 d240 d241
  repeat (first | (refine seq_read rfl (by rfl) _ (fun w' hS => by (try dsimp only at hS); go_simp; (try with_reducible rfl)) ?_; (try simp only [Act.put, List.setIfInBounds_toArray, List.set_cons_zero, List.set_cons_succ])) | (refine seq_skip rfl (by rfl) ?_; (try simp only [Act.put, List.setIfInBounds_toArray, List.set_cons_zero, List.set_cons_succ])))
  (refine seq_do rfl (by rfl) (fun K hK => ?_); go_simp)
  refine (spanL_any _ _ _).mono ?_
  rintro e x4 ⟨rfl, hx4⟩
  have d410 := cellG d310 hx4; have d411 := cellG d311 hx4; have d420 := cellG d320 hx4; have d421 := cellG d321 hx4; have d430 := cellG d330 hx4; have d431 := cellG d331 hx4; have d440 := cellG d340 hx4; have d441 := cellG d341 hx4
  have hE4 := BT hE3 hx4
  refine hK _ _ ⟨d410, d411, d420, d421, d430, d431, d440, d441⟩ ?_
  clear hK K hE3 hx4 d310 d311 d320 d321 d330 d331 d340 d341
  repeat (first | (refine seq_read rfl (by rfl) _ (fun w' hS => by (try dsimp only at hS); go_simp; (try with_reducible rfl)) ?_; (try simp only [Act.put, List.setIfInBounds_toArray, List.set_cons_zero, List.set_cons_succ])) | (refine seq_skip rfl (by rfl) ?_; (try simp only [Act.put, List.setIfInBounds_toArray, List.set_cons_zero, List.set_cons_succ])))
  refine seq_end ?_
  go_wp2
  go_ret
  exact ⟨rfl, hE4⟩

end Go.Proofs.Ytmfbkgdlfackcaa
