/- What the package answers of the measure of the examples. -/
import Derived.Test.YtmfbkgdlfackcaaSam
import Derived.Test.YtmfbkgdlfackcaaIdl
import Derived.Test.YtmfbkgdlfackcaaOnc
namespace Go.Proofs.Ytmfbkgdlfackcaa
open Go.RowKit

def exM (a sa : Addr) (n cap ns scap : Nat) : Hd := ⟨some a, n, cap, -3, 3, 2, 2900, 3100, some sa, ns, scap⟩
theorem exSumV (a sa : Addr) (n cap ns scap : Nat) : reply (sumA (exM a sa n cap ns scap) exX (exS ++ [])) = .tuple #[.agg #[.int .i64 (2997), .int .i64 (3004)], .int .i64 0] := by kernel_rfl
theorem exSum (a sa : Addr) (n cap ns scap : Nat) (w : World) (hm : HasM w (exM a sa n cap ns scap) exX (exS ++ [])) :
    Calls Try.prog 18 #[.agg #[.slice (some a) n cap, .int .i64 (-3), .int .i64 3, .int .i64 2, .int .i64 2900, .int .i64 3100, .slice (some sa) ns scap]] w (Ret (.tuple #[.agg #[.int .i64 (2997), .int .i64 (3004)], .int .i64 0]) w) := by
  have h := sum_any _ _ _ w hm
  rw [exSumV] at h
  exact h
theorem exPlace1V (a sa : Addr) (n cap ns scap : Nat) : reply (placeA (exM a sa n cap ns scap) exX (exS ++ []) 1) = .tuple #[.agg #[.int .i64 (1201), .int .i64 (1208)], .int .i64 0] := by kernel_rfl
theorem exPlace1 (a sa : Addr) (n cap ns scap : Nat) (w : World) (hm : HasM w (exM a sa n cap ns scap) exX (exS ++ [])) :
    Calls Try.prog 20 #[.agg #[.slice (some a) n cap, .int .i64 (-3), .int .i64 3, .int .i64 2, .int .i64 2900, .int .i64 3100, .slice (some sa) ns scap], .int .i64 1] w (Ret (.tuple #[.agg #[.int .i64 (1201), .int .i64 (1208)], .int .i64 0]) w) := by
  have h := place_any 1 _ _ _ w hm
  rw [exPlace1V] at h
  exact h
theorem exPlace0V (a sa : Addr) (n cap ns scap : Nat) : reply (placeA (exM a sa n cap ns scap) exX (exS ++ []) 0) = .tuple #[.agg #[.int .i64 (495), .int .i64 (502)], .int .i64 0] := by kernel_rfl
theorem exPlace0 (a sa : Addr) (n cap ns scap : Nat) (w : World) (hm : HasM w (exM a sa n cap ns scap) exX (exS ++ [])) :
    Calls Try.prog 20 #[.agg #[.slice (some a) n cap, .int .i64 (-3), .int .i64 3, .int .i64 2, .int .i64 2900, .int .i64 3100, .slice (some sa) ns scap], .int .i64 0] w (Ret (.tuple #[.agg #[.int .i64 (495), .int .i64 (502)], .int .i64 0]) w) := by
  have h := place_any 0 _ _ _ w hm
  rw [exPlace0V] at h
  exact h
theorem exApart01V (a sa : Addr) (n cap ns scap : Nat) : reply (apartA (exM a sa n cap ns scap) exX (exS ++ []) 0 1) = .tuple #[.agg #[.int .i64 (706), .int .i64 (713)], .int .i64 0] := by kernel_rfl
theorem exApart01 (a sa : Addr) (n cap ns scap : Nat) (w : World) (hm : HasM w (exM a sa n cap ns scap) exX (exS ++ [])) :
    Calls Try.prog 22 #[.agg #[.slice (some a) n cap, .int .i64 (-3), .int .i64 3, .int .i64 2, .int .i64 2900, .int .i64 3100, .slice (some sa) ns scap], .int .i64 0, .int .i64 1] w (Ret (.tuple #[.agg #[.int .i64 (706), .int .i64 (713)], .int .i64 0]) w) := by
  have h := apart_any 0 1 _ _ _ w hm
  rw [exApart01V] at h
  exact h
theorem exApart10V (a sa : Addr) (n cap ns scap : Nat) : reply (apartA (exM a sa n cap ns scap) exX (exS ++ []) 1 0) = .tuple #[.agg #[.int .i64 (-713), .int .i64 (-706)], .int .i64 0] := by kernel_rfl
theorem exApart10 (a sa : Addr) (n cap ns scap : Nat) (w : World) (hm : HasM w (exM a sa n cap ns scap) exX (exS ++ [])) :
    Calls Try.prog 22 #[.agg #[.slice (some a) n cap, .int .i64 (-3), .int .i64 3, .int .i64 2, .int .i64 2900, .int .i64 3100, .slice (some sa) ns scap], .int .i64 1, .int .i64 0] w (Ret (.tuple #[.agg #[.int .i64 (-713), .int .i64 (-706)], .int .i64 0]) w) := by
  have h := apart_any 1 0 _ _ _ w hm
  rw [exApart10V] at h
  exact h
theorem exClash5V (a sa : Addr) (n cap ns scap : Nat) : replyI (clashA (exM a sa n cap ns scap) exX (exS ++ [(0, 520, false)])) = .tuple #[.int .i64 17, .int .i64 0] := by kernel_rfl
theorem exClash5 (a sa : Addr) (n cap ns scap : Nat) (w : World) (hm : HasM w (exM a sa n cap ns scap) exX (exS ++ [(0, 520, false)])) :
    Calls Try.prog 24 #[.agg #[.slice (some a) n cap, .int .i64 (-3), .int .i64 3, .int .i64 2, .int .i64 2900, .int .i64 3100, .slice (some sa) ns scap]] w (Ret (.tuple #[.int .i64 17, .int .i64 0]) w) := by
  have h := clash_any _ _ _ w hm
  rw [exClash5V] at h
  exact h
theorem exDrop5V (a sa : Addr) (n cap ns scap : Nat) : replyI (dropA (exM a sa n cap ns scap) exX (exS ++ [(0, 520, false)])) = .tuple #[.int .i64 16, .int .i64 0] := by kernel_rfl
theorem exDrop5 (a sa : Addr) (n cap ns scap : Nat) (w : World) (hm : HasM w (exM a sa n cap ns scap) exX (exS ++ [(0, 520, false)])) :
    Calls Try.prog 26 #[.agg #[.slice (some a) n cap, .int .i64 (-3), .int .i64 3, .int .i64 2, .int .i64 2900, .int .i64 3100, .slice (some sa) ns scap]] w (Ret (.tuple #[.int .i64 16, .int .i64 0]) w) := by
  have h := drop_any _ _ _ w hm
  rw [exDrop5V] at h
  exact h
theorem exClashV (a sa : Addr) (n cap ns scap : Nat) : replyI (clashA (exM a sa n cap ns scap) exX (exS ++ [])) = .tuple #[.int .i64 0, .int .i64 0] := by kernel_rfl
theorem exClash (a sa : Addr) (n cap ns scap : Nat) (w : World) (hm : HasM w (exM a sa n cap ns scap) exX (exS ++ [])) :
    Calls Try.prog 24 #[.agg #[.slice (some a) n cap, .int .i64 (-3), .int .i64 3, .int .i64 2, .int .i64 2900, .int .i64 3100, .slice (some sa) ns scap]] w (Ret (.tuple #[.int .i64 0, .int .i64 0]) w) := by
  have h := clash_any _ _ _ w hm
  rw [exClashV] at h
  exact h
theorem exDropV (a sa : Addr) (n cap ns scap : Nat) : replyI (dropA (exM a sa n cap ns scap) exX (exS ++ [])) = .tuple #[.int .i64 0, .int .i64 0] := by kernel_rfl
theorem exDrop (a sa : Addr) (n cap ns scap : Nat) (w : World) (hm : HasM w (exM a sa n cap ns scap) exX (exS ++ [])) :
    Calls Try.prog 26 #[.agg #[.slice (some a) n cap, .int .i64 (-3), .int .i64 3, .int .i64 2, .int .i64 2900, .int .i64 3100, .slice (some sa) ns scap]] w (Ret (.tuple #[.int .i64 0, .int .i64 0]) w) := by
  have h := drop_any _ _ _ w hm
  rw [exDropV] at h
  exact h
theorem exIdleV (a sa : Addr) (n cap ns scap : Nat) : replyI (idleA (exM a sa n cap ns scap) exX (exS ++ [])) = .tuple #[.int .i64 0, .int .i64 0] := by kernel_rfl
theorem exIdle (a sa : Addr) (n cap ns scap : Nat) (w : World) (hm : HasM w (exM a sa n cap ns scap) exX (exS ++ [])) :
    Calls Try.prog 30 #[.agg #[.slice (some a) n cap, .int .i64 (-3), .int .i64 3, .int .i64 2, .int .i64 2900, .int .i64 3100, .slice (some sa) ns scap]] w (Ret (.tuple #[.int .i64 0, .int .i64 0]) w) := by
  have h := idle_any _ _ _ w hm
  rw [exIdleV] at h
  exact h
theorem exOnceV (a sa : Addr) (n cap ns scap : Nat) : replyI (onceA (exM a sa n cap ns scap) exX (exS ++ [])) = .tuple #[.int .i64 0, .int .i64 0] := by kernel_rfl
theorem exOnce (a sa : Addr) (n cap ns scap : Nat) (w : World) (hm : HasM w (exM a sa n cap ns scap) exX (exS ++ [])) :
    Calls Try.prog 28 #[.agg #[.slice (some a) n cap, .int .i64 (-3), .int .i64 3, .int .i64 2, .int .i64 2900, .int .i64 3100, .slice (some sa) ns scap]] w (Ret (.tuple #[.int .i64 0, .int .i64 0]) w) := by
  have h := once_any _ _ _ w hm
  rw [exOnceV] at h
  exact h
theorem exSum5V (a sa : Addr) (n cap ns scap : Nat) : reply (sumA (exM a sa n cap ns scap) exX (exS ++ [(0, 520, false)])) = .tuple #[.agg #[.int .i64 (0), .int .i64 (0)], .int .i64 10] := by kernel_rfl
theorem exSum5 (a sa : Addr) (n cap ns scap : Nat) (w : World) (hm : HasM w (exM a sa n cap ns scap) exX (exS ++ [(0, 520, false)])) :
    Calls Try.prog 18 #[.agg #[.slice (some a) n cap, .int .i64 (-3), .int .i64 3, .int .i64 2, .int .i64 2900, .int .i64 3100, .slice (some sa) ns scap]] w (Ret (.tuple #[.agg #[.int .i64 (0), .int .i64 (0)], .int .i64 10]) w) := by
  have h := sum_any _ _ _ w hm
  rw [exSum5V] at h
  exact h
theorem exTravelV : reply (travelR exX (-3) 3 1200) = .tuple #[.agg #[.int .i64 1197, .int .i64 1208], .int .i64 0] := by kernel_rfl
theorem exTravel4V : reply (travelR exX (-3) 3 4000) = .tuple #[.agg #[.int .i64 0, .int .i64 0], .int .i64 2] := by kernel_rfl
theorem exTravel (a sa : Addr) (n cap ns scap : Nat) (ss : List Sett) (w : World) (hm : HasM w (exM a sa n cap ns scap) exX ss) :
    Calls Try.prog 16 #[.agg #[.slice (some a) n cap, .int .i64 (-3), .int .i64 3], .int .i64 1200] w (Ret (.tuple #[.agg #[.int .i64 1197, .int .i64 1208], .int .i64 0]) w) := by
  have h := travel_any16 (some a) cap (-3) 3 1200 exX w hm.sp hm.lx (by omega)
  rw [exTravelV, hm.nx] at h
  exact h
theorem exTravel4 (a sa : Addr) (n cap ns scap : Nat) (ss : List Sett) (w : World) (hm : HasM w (exM a sa n cap ns scap) exX ss) :
    Calls Try.prog 16 #[.agg #[.slice (some a) n cap, .int .i64 (-3), .int .i64 3], .int .i64 4000] w (Ret (.tuple #[.agg #[.int .i64 0, .int .i64 0], .int .i64 2]) w) := by
  have h := travel_any16 (some a) cap (-3) 3 4000 exX w hm.sp hm.lx (by omega)
  rw [exTravel4V, hm.nx] at h
  exact h

end Go.Proofs.Ytmfbkgdlfackcaa
