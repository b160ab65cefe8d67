/- Small functions of sha and of the document's sum: what each call answers. -/
import Derived.Test.YtalobkggpdniaaaDoorRows
import Derived.Test.YtalobkggpdniaaaDoorSWord
import Derived.WalkKit
import Derived.WalkSpells
import Derived.WalkLawsBesides
namespace Go.Proofs.YtalobkggpdniaaaDoor
open Go.RowKit Wd

theorem ret_u32 {a b : Int} (h : a = b) : Ending.returned (.int .u32 a) = .returned (.int .u32 b) := by rw [h]

theorem rotl_30 (a : UInt32) : bits .or .u32 ((a.toNat : Int) * 1073741824 % 4294967296) ((a.toNat : Int) / 4) = ((rotl a 30).toNat : Int) := rotl_walk a 30 (by decide) (by decide)
theorem rot_2 (a : UInt32) (w : World) :
    Calls Tryd.prog 56 #[.int .u32 a.toNat, .int .i64 (-2)] w fun e w' => e = .returned (.int .u32 (rotl a 30).toNat) ∧ w = w' := by
  have h : bits BinOp.and IntKind.u64 (IntKind.u64.wrap (-2)) 31 = 30 := by decide
  go_enter Tryd.func56, Tryd.ntmps56
  go_wp2
  go_ret
  exact ⟨ret_u32 (rotl_30 a), rfl⟩
theorem turned_2 (a : UInt32) (w : World) :
    Calls Tryd.prog 53 #[.int .u32 a.toNat, .int .i64 2] w fun e w' => e = .returned (.int .u32 (rotl a 30).toNat) ∧ w = w' := by
  go_enter Tryd.func53, Tryd.ntmps53
  go_wp2_with fail
  refine (rot_2 _ _).mono ?_; rintro e w' ⟨rfl, rfl⟩
  go_wp2_with fail
  go_ret
  exact ⟨rfl, rfl⟩
theorem left_30 (a : UInt32) (w : World) :
    Calls Tryd.prog 28 #[.int .u32 a.toNat, .int .u64 30] w fun e w' => e = .returned (.int .u32 (rotl a 30).toNat) ∧ w = w' := by
  go_enter Tryd.func28, Tryd.ntmps28
  go_wp2
  go_ret
  exact ⟨ret_u32 (rotl_30 a), rfl⟩

theorem rotl_26 (a : UInt32) : bits .or .u32 ((a.toNat : Int) * 67108864 % 4294967296) ((a.toNat : Int) / 64) = ((rotl a 26).toNat : Int) := rotl_walk a 26 (by decide) (by decide)
theorem rot_6 (a : UInt32) (w : World) :
    Calls Tryd.prog 56 #[.int .u32 a.toNat, .int .i64 (-6)] w fun e w' => e = .returned (.int .u32 (rotl a 26).toNat) ∧ w = w' := by
  have h : bits BinOp.and IntKind.u64 (IntKind.u64.wrap (-6)) 31 = 26 := by decide
  go_enter Tryd.func56, Tryd.ntmps56
  go_wp2
  go_ret
  exact ⟨ret_u32 (rotl_26 a), rfl⟩
theorem turned_6 (a : UInt32) (w : World) :
    Calls Tryd.prog 53 #[.int .u32 a.toNat, .int .i64 6] w fun e w' => e = .returned (.int .u32 (rotl a 26).toNat) ∧ w = w' := by
  go_enter Tryd.func53, Tryd.ntmps53
  go_wp2_with fail
  refine (rot_6 _ _).mono ?_; rintro e w' ⟨rfl, rfl⟩
  go_wp2_with fail
  go_ret
  exact ⟨rfl, rfl⟩
theorem left_26 (a : UInt32) (w : World) :
    Calls Tryd.prog 28 #[.int .u32 a.toNat, .int .u64 26] w fun e w' => e = .returned (.int .u32 (rotl a 26).toNat) ∧ w = w' := by
  go_enter Tryd.func28, Tryd.ntmps28
  go_wp2
  go_ret
  exact ⟨ret_u32 (rotl_26 a), rfl⟩

theorem rotl_25 (a : UInt32) : bits .or .u32 ((a.toNat : Int) * 33554432 % 4294967296) ((a.toNat : Int) / 128) = ((rotl a 25).toNat : Int) := rotl_walk a 25 (by decide) (by decide)
theorem rot_7 (a : UInt32) (w : World) :
    Calls Tryd.prog 56 #[.int .u32 a.toNat, .int .i64 (-7)] w fun e w' => e = .returned (.int .u32 (rotl a 25).toNat) ∧ w = w' := by
  have h : bits BinOp.and IntKind.u64 (IntKind.u64.wrap (-7)) 31 = 25 := by decide
  go_enter Tryd.func56, Tryd.ntmps56
  go_wp2
  go_ret
  exact ⟨ret_u32 (rotl_25 a), rfl⟩
theorem turned_7 (a : UInt32) (w : World) :
    Calls Tryd.prog 53 #[.int .u32 a.toNat, .int .i64 7] w fun e w' => e = .returned (.int .u32 (rotl a 25).toNat) ∧ w = w' := by
  go_enter Tryd.func53, Tryd.ntmps53
  go_wp2_with fail
  refine (rot_7 _ _).mono ?_; rintro e w' ⟨rfl, rfl⟩
  go_wp2_with fail
  go_ret
  exact ⟨rfl, rfl⟩
theorem left_25 (a : UInt32) (w : World) :
    Calls Tryd.prog 28 #[.int .u32 a.toNat, .int .u64 25] w fun e w' => e = .returned (.int .u32 (rotl a 25).toNat) ∧ w = w' := by
  go_enter Tryd.func28, Tryd.ntmps28
  go_wp2
  go_ret
  exact ⟨ret_u32 (rotl_25 a), rfl⟩

theorem rotl_21 (a : UInt32) : bits .or .u32 ((a.toNat : Int) * 2097152 % 4294967296) ((a.toNat : Int) / 2048) = ((rotl a 21).toNat : Int) := rotl_walk a 21 (by decide) (by decide)
theorem rot_11 (a : UInt32) (w : World) :
    Calls Tryd.prog 56 #[.int .u32 a.toNat, .int .i64 (-11)] w fun e w' => e = .returned (.int .u32 (rotl a 21).toNat) ∧ w = w' := by
  have h : bits BinOp.and IntKind.u64 (IntKind.u64.wrap (-11)) 31 = 21 := by decide
  go_enter Tryd.func56, Tryd.ntmps56
  go_wp2
  go_ret
  exact ⟨ret_u32 (rotl_21 a), rfl⟩
theorem turned_11 (a : UInt32) (w : World) :
    Calls Tryd.prog 53 #[.int .u32 a.toNat, .int .i64 11] w fun e w' => e = .returned (.int .u32 (rotl a 21).toNat) ∧ w = w' := by
  go_enter Tryd.func53, Tryd.ntmps53
  go_wp2_with fail
  refine (rot_11 _ _).mono ?_; rintro e w' ⟨rfl, rfl⟩
  go_wp2_with fail
  go_ret
  exact ⟨rfl, rfl⟩
theorem left_21 (a : UInt32) (w : World) :
    Calls Tryd.prog 28 #[.int .u32 a.toNat, .int .u64 21] w fun e w' => e = .returned (.int .u32 (rotl a 21).toNat) ∧ w = w' := by
  go_enter Tryd.func28, Tryd.ntmps28
  go_wp2
  go_ret
  exact ⟨ret_u32 (rotl_21 a), rfl⟩

theorem rotl_19 (a : UInt32) : bits .or .u32 ((a.toNat : Int) * 524288 % 4294967296) ((a.toNat : Int) / 8192) = ((rotl a 19).toNat : Int) := rotl_walk a 19 (by decide) (by decide)
theorem rot_13 (a : UInt32) (w : World) :
    Calls Tryd.prog 56 #[.int .u32 a.toNat, .int .i64 (-13)] w fun e w' => e = .returned (.int .u32 (rotl a 19).toNat) ∧ w = w' := by
  have h : bits BinOp.and IntKind.u64 (IntKind.u64.wrap (-13)) 31 = 19 := by decide
  go_enter Tryd.func56, Tryd.ntmps56
  go_wp2
  go_ret
  exact ⟨ret_u32 (rotl_19 a), rfl⟩
theorem turned_13 (a : UInt32) (w : World) :
    Calls Tryd.prog 53 #[.int .u32 a.toNat, .int .i64 13] w fun e w' => e = .returned (.int .u32 (rotl a 19).toNat) ∧ w = w' := by
  go_enter Tryd.func53, Tryd.ntmps53
  go_wp2_with fail
  refine (rot_13 _ _).mono ?_; rintro e w' ⟨rfl, rfl⟩
  go_wp2_with fail
  go_ret
  exact ⟨rfl, rfl⟩
theorem left_19 (a : UInt32) (w : World) :
    Calls Tryd.prog 28 #[.int .u32 a.toNat, .int .u64 19] w fun e w' => e = .returned (.int .u32 (rotl a 19).toNat) ∧ w = w' := by
  go_enter Tryd.func28, Tryd.ntmps28
  go_wp2
  go_ret
  exact ⟨ret_u32 (rotl_19 a), rfl⟩

theorem rotl_15 (a : UInt32) : bits .or .u32 ((a.toNat : Int) * 32768 % 4294967296) ((a.toNat : Int) / 131072) = ((rotl a 15).toNat : Int) := rotl_walk a 15 (by decide) (by decide)
theorem rot_17 (a : UInt32) (w : World) :
    Calls Tryd.prog 56 #[.int .u32 a.toNat, .int .i64 (-17)] w fun e w' => e = .returned (.int .u32 (rotl a 15).toNat) ∧ w = w' := by
  have h : bits BinOp.and IntKind.u64 (IntKind.u64.wrap (-17)) 31 = 15 := by decide
  go_enter Tryd.func56, Tryd.ntmps56
  go_wp2
  go_ret
  exact ⟨ret_u32 (rotl_15 a), rfl⟩
theorem turned_17 (a : UInt32) (w : World) :
    Calls Tryd.prog 53 #[.int .u32 a.toNat, .int .i64 17] w fun e w' => e = .returned (.int .u32 (rotl a 15).toNat) ∧ w = w' := by
  go_enter Tryd.func53, Tryd.ntmps53
  go_wp2_with fail
  refine (rot_17 _ _).mono ?_; rintro e w' ⟨rfl, rfl⟩
  go_wp2_with fail
  go_ret
  exact ⟨rfl, rfl⟩
theorem left_15 (a : UInt32) (w : World) :
    Calls Tryd.prog 28 #[.int .u32 a.toNat, .int .u64 15] w fun e w' => e = .returned (.int .u32 (rotl a 15).toNat) ∧ w = w' := by
  go_enter Tryd.func28, Tryd.ntmps28
  go_wp2
  go_ret
  exact ⟨ret_u32 (rotl_15 a), rfl⟩

theorem rotl_14 (a : UInt32) : bits .or .u32 ((a.toNat : Int) * 16384 % 4294967296) ((a.toNat : Int) / 262144) = ((rotl a 14).toNat : Int) := rotl_walk a 14 (by decide) (by decide)
theorem rot_18 (a : UInt32) (w : World) :
    Calls Tryd.prog 56 #[.int .u32 a.toNat, .int .i64 (-18)] w fun e w' => e = .returned (.int .u32 (rotl a 14).toNat) ∧ w = w' := by
  have h : bits BinOp.and IntKind.u64 (IntKind.u64.wrap (-18)) 31 = 14 := by decide
  go_enter Tryd.func56, Tryd.ntmps56
  go_wp2
  go_ret
  exact ⟨ret_u32 (rotl_14 a), rfl⟩
theorem turned_18 (a : UInt32) (w : World) :
    Calls Tryd.prog 53 #[.int .u32 a.toNat, .int .i64 18] w fun e w' => e = .returned (.int .u32 (rotl a 14).toNat) ∧ w = w' := by
  go_enter Tryd.func53, Tryd.ntmps53
  go_wp2_with fail
  refine (rot_18 _ _).mono ?_; rintro e w' ⟨rfl, rfl⟩
  go_wp2_with fail
  go_ret
  exact ⟨rfl, rfl⟩
theorem left_14 (a : UInt32) (w : World) :
    Calls Tryd.prog 28 #[.int .u32 a.toNat, .int .u64 14] w fun e w' => e = .returned (.int .u32 (rotl a 14).toNat) ∧ w = w' := by
  go_enter Tryd.func28, Tryd.ntmps28
  go_wp2
  go_ret
  exact ⟨ret_u32 (rotl_14 a), rfl⟩

theorem rotl_13 (a : UInt32) : bits .or .u32 ((a.toNat : Int) * 8192 % 4294967296) ((a.toNat : Int) / 524288) = ((rotl a 13).toNat : Int) := rotl_walk a 13 (by decide) (by decide)
theorem rot_19 (a : UInt32) (w : World) :
    Calls Tryd.prog 56 #[.int .u32 a.toNat, .int .i64 (-19)] w fun e w' => e = .returned (.int .u32 (rotl a 13).toNat) ∧ w = w' := by
  have h : bits BinOp.and IntKind.u64 (IntKind.u64.wrap (-19)) 31 = 13 := by decide
  go_enter Tryd.func56, Tryd.ntmps56
  go_wp2
  go_ret
  exact ⟨ret_u32 (rotl_13 a), rfl⟩
theorem turned_19 (a : UInt32) (w : World) :
    Calls Tryd.prog 53 #[.int .u32 a.toNat, .int .i64 19] w fun e w' => e = .returned (.int .u32 (rotl a 13).toNat) ∧ w = w' := by
  go_enter Tryd.func53, Tryd.ntmps53
  go_wp2_with fail
  refine (rot_19 _ _).mono ?_; rintro e w' ⟨rfl, rfl⟩
  go_wp2_with fail
  go_ret
  exact ⟨rfl, rfl⟩
theorem left_13 (a : UInt32) (w : World) :
    Calls Tryd.prog 28 #[.int .u32 a.toNat, .int .u64 13] w fun e w' => e = .returned (.int .u32 (rotl a 13).toNat) ∧ w = w' := by
  go_enter Tryd.func28, Tryd.ntmps28
  go_wp2
  go_ret
  exact ⟨ret_u32 (rotl_13 a), rfl⟩

theorem rotl_10 (a : UInt32) : bits .or .u32 ((a.toNat : Int) * 1024 % 4294967296) ((a.toNat : Int) / 4194304) = ((rotl a 10).toNat : Int) := rotl_walk a 10 (by decide) (by decide)
theorem rot_22 (a : UInt32) (w : World) :
    Calls Tryd.prog 56 #[.int .u32 a.toNat, .int .i64 (-22)] w fun e w' => e = .returned (.int .u32 (rotl a 10).toNat) ∧ w = w' := by
  have h : bits BinOp.and IntKind.u64 (IntKind.u64.wrap (-22)) 31 = 10 := by decide
  go_enter Tryd.func56, Tryd.ntmps56
  go_wp2
  go_ret
  exact ⟨ret_u32 (rotl_10 a), rfl⟩
theorem turned_22 (a : UInt32) (w : World) :
    Calls Tryd.prog 53 #[.int .u32 a.toNat, .int .i64 22] w fun e w' => e = .returned (.int .u32 (rotl a 10).toNat) ∧ w = w' := by
  go_enter Tryd.func53, Tryd.ntmps53
  go_wp2_with fail
  refine (rot_22 _ _).mono ?_; rintro e w' ⟨rfl, rfl⟩
  go_wp2_with fail
  go_ret
  exact ⟨rfl, rfl⟩
theorem left_10 (a : UInt32) (w : World) :
    Calls Tryd.prog 28 #[.int .u32 a.toNat, .int .u64 10] w fun e w' => e = .returned (.int .u32 (rotl a 10).toNat) ∧ w = w' := by
  go_enter Tryd.func28, Tryd.ntmps28
  go_wp2
  go_ret
  exact ⟨ret_u32 (rotl_10 a), rfl⟩

theorem rotl_7 (a : UInt32) : bits .or .u32 ((a.toNat : Int) * 128 % 4294967296) ((a.toNat : Int) / 33554432) = ((rotl a 7).toNat : Int) := rotl_walk a 7 (by decide) (by decide)
theorem rot_25 (a : UInt32) (w : World) :
    Calls Tryd.prog 56 #[.int .u32 a.toNat, .int .i64 (-25)] w fun e w' => e = .returned (.int .u32 (rotl a 7).toNat) ∧ w = w' := by
  have h : bits BinOp.and IntKind.u64 (IntKind.u64.wrap (-25)) 31 = 7 := by decide
  go_enter Tryd.func56, Tryd.ntmps56
  go_wp2
  go_ret
  exact ⟨ret_u32 (rotl_7 a), rfl⟩
theorem turned_25 (a : UInt32) (w : World) :
    Calls Tryd.prog 53 #[.int .u32 a.toNat, .int .i64 25] w fun e w' => e = .returned (.int .u32 (rotl a 7).toNat) ∧ w = w' := by
  go_enter Tryd.func53, Tryd.ntmps53
  go_wp2_with fail
  refine (rot_25 _ _).mono ?_; rintro e w' ⟨rfl, rfl⟩
  go_wp2_with fail
  go_ret
  exact ⟨rfl, rfl⟩
theorem left_7 (a : UInt32) (w : World) :
    Calls Tryd.prog 28 #[.int .u32 a.toNat, .int .u64 7] w fun e w' => e = .returned (.int .u32 (rotl a 7).toNat) ∧ w = w' := by
  go_enter Tryd.func28, Tryd.ntmps28
  go_wp2
  go_ret
  exact ⟨ret_u32 (rotl_7 a), rfl⟩

attribute [local go_sem] xo_walk shr3_walk shr10_walk

theorem mixFar_any (a : UInt32) (w : World) :
    Calls Tryd.prog 51 #[.int .u32 a.toNat] w fun e w' => e = .returned (.int .u32 (far a).toNat) ∧ w = w' := by
  go_enter Tryd.func51, Tryd.ntmps51
  go_wp2_with fail
  refine (turned_7 _ _).mono ?_; rintro e w' ⟨rfl, rfl⟩
  go_wp2_with fail
  refine (turned_18 _ _).mono ?_; rintro e w' ⟨rfl, rfl⟩
  go_wp2_with fail
  go_ret
  exact ⟨rfl, rfl⟩

theorem mixNear_any (a : UInt32) (w : World) :
    Calls Tryd.prog 52 #[.int .u32 a.toNat] w fun e w' => e = .returned (.int .u32 (near a).toNat) ∧ w = w' := by
  go_enter Tryd.func52, Tryd.ntmps52
  go_wp2_with fail
  refine (turned_17 _ _).mono ?_; rintro e w' ⟨rfl, rfl⟩
  go_wp2_with fail
  refine (turned_19 _ _).mono ?_; rintro e w' ⟨rfl, rfl⟩
  go_wp2_with fail
  go_ret
  exact ⟨rfl, rfl⟩

theorem mixHigh_any (a : UInt32) (w : World) :
    Calls Tryd.prog 48 #[.int .u32 a.toNat] w fun e w' => e = .returned (.int .u32 (high a).toNat) ∧ w = w' := by
  go_enter Tryd.func48, Tryd.ntmps48
  go_wp2_with fail
  refine (turned_2 _ _).mono ?_; rintro e w' ⟨rfl, rfl⟩
  go_wp2_with fail
  refine (turned_13 _ _).mono ?_; rintro e w' ⟨rfl, rfl⟩
  go_wp2_with fail
  refine (turned_22 _ _).mono ?_; rintro e w' ⟨rfl, rfl⟩
  go_wp2_with fail
  go_ret
  exact ⟨rfl, rfl⟩

theorem mixLow_any (a : UInt32) (w : World) :
    Calls Tryd.prog 47 #[.int .u32 a.toNat] w fun e w' => e = .returned (.int .u32 (low a).toNat) ∧ w = w' := by
  go_enter Tryd.func47, Tryd.ntmps47
  go_wp2_with fail
  refine (turned_6 _ _).mono ?_; rintro e w' ⟨rfl, rfl⟩
  go_wp2_with fail
  refine (turned_11 _ _).mono ?_; rintro e w' ⟨rfl, rfl⟩
  go_wp2_with fail
  refine (turned_25 _ _).mono ?_; rintro e w' ⟨rfl, rfl⟩
  go_wp2_with fail
  go_ret
  exact ⟨rfl, rfl⟩

theorem turnsLow_any (a : UInt32) (w : World) :
    Calls Tryd.prog 29 #[.int .u32 a.toNat, .int .u64 6, .int .u64 11, .int .u64 25] w fun e w' => e = .returned (.int .u32 (low a).toNat) ∧ w = w' := by
  go_enter Tryd.func29, Tryd.ntmps29
  go_wp2_with fail
  refine (left_26 _ _).mono ?_; rintro e w' ⟨rfl, rfl⟩
  go_wp2_with fail
  refine (left_21 _ _).mono ?_; rintro e w' ⟨rfl, rfl⟩
  go_wp2_with fail
  refine (left_7 _ _).mono ?_; rintro e w' ⟨rfl, rfl⟩
  go_wp2_with fail
  go_ret
  exact ⟨rfl, rfl⟩

theorem turnsHigh_any (a : UInt32) (w : World) :
    Calls Tryd.prog 29 #[.int .u32 a.toNat, .int .u64 2, .int .u64 13, .int .u64 22] w fun e w' => e = .returned (.int .u32 (high a).toNat) ∧ w = w' := by
  go_enter Tryd.func29, Tryd.ntmps29
  go_wp2_with fail
  refine (left_30 _ _).mono ?_; rintro e w' ⟨rfl, rfl⟩
  go_wp2_with fail
  refine (left_19 _ _).mono ?_; rintro e w' ⟨rfl, rfl⟩
  go_wp2_with fail
  refine (left_10 _ _).mono ?_; rintro e w' ⟨rfl, rfl⟩
  go_wp2_with fail
  go_ret
  exact ⟨rfl, rfl⟩

end Go.Proofs.YtalobkggpdniaaaDoor
