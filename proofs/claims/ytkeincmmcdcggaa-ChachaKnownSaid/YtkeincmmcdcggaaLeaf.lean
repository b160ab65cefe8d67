/- Small functions of chacha: what each call answers. -/
import Derived.Test.YtkeincmmcdcggaaRows
import Derived.Test.YtkeincmmcdcggaaWord
import Derived.WalkKit
import Derived.WalkSpells
import Derived.WalkLawsBesides
namespace Go.Proofs.Ytkeincmmcdcggaa
open Go.RowKit Wd

theorem ret_u32 {a b : Int} (h : a = b) : Ending.returned (.int .u32 a) = .returned (.int .u32 b) := by rw [h]
/-- A frame's four results, told as one tuple. -/
theorem told4 (P : Program) (fn : Func) (a b c d : Tmp) (hr : fn.results = #[.tmp a, .tmp b, .tmp c, .tmp d]) (fr : Array Value) (w : World) :
    (results fn fr).run P w = .ok (.tuple #[fr.getD a undef, fr.getD b undef, fr.getD c undef, fr.getD d undef]) w := by
  unfold results; rw [hr]; simp

theorem rot_16 (a : UInt32) (w : World) :
    Calls Try.prog 26 #[.int .u32 a.toNat, .int .i64 16] w fun e w' => e = .returned (.int .u32 (rotl a 16).toNat) ∧ w = w' := by
  have h : bits BinOp.and IntKind.u64 16 31 = 16 := by decide
  go_enter Try.func26, Try.ntmps26
  go_wp2
  go_ret
  exact ⟨ret_u32 (rotl_16 a), rfl⟩
theorem rot_12 (a : UInt32) (w : World) :
    Calls Try.prog 26 #[.int .u32 a.toNat, .int .i64 12] w fun e w' => e = .returned (.int .u32 (rotl a 12).toNat) ∧ w = w' := by
  have h : bits BinOp.and IntKind.u64 12 31 = 12 := by decide
  go_enter Try.func26, Try.ntmps26
  go_wp2
  go_ret
  exact ⟨ret_u32 (rotl_12 a), rfl⟩
theorem rot_8 (a : UInt32) (w : World) :
    Calls Try.prog 26 #[.int .u32 a.toNat, .int .i64 8] w fun e w' => e = .returned (.int .u32 (rotl a 8).toNat) ∧ w = w' := by
  have h : bits BinOp.and IntKind.u64 8 31 = 8 := by decide
  go_enter Try.func26, Try.ntmps26
  go_wp2
  go_ret
  exact ⟨ret_u32 (rotl_8 a), rfl⟩
theorem rot_7 (a : UInt32) (w : World) :
    Calls Try.prog 26 #[.int .u32 a.toNat, .int .i64 7] w fun e w' => e = .returned (.int .u32 (rotl a 7).toNat) ∧ w = w' := by
  have h : bits BinOp.and IntKind.u64 7 31 = 7 := by decide
  go_enter Try.func26, Try.ntmps26
  go_wp2
  go_ret
  exact ⟨ret_u32 (rotl_7 a), rfl⟩

theorem left_16 (a : UInt32) (w : World) :
    Calls Try.prog 25 #[.int .u32 a.toNat, .int .u64 16] w fun e w' => e = .returned (.int .u32 (rotl a 16).toNat) ∧ w = w' := by
  go_enter Try.func25, Try.ntmps25
  go_wp2
  go_ret
  exact ⟨ret_u32 (rotl_16 a), rfl⟩
theorem left_12 (a : UInt32) (w : World) :
    Calls Try.prog 25 #[.int .u32 a.toNat, .int .u64 12] w fun e w' => e = .returned (.int .u32 (rotl a 12).toNat) ∧ w = w' := by
  go_enter Try.func25, Try.ntmps25
  go_wp2
  go_ret
  exact ⟨ret_u32 (rotl_12 a), rfl⟩
theorem left_8 (a : UInt32) (w : World) :
    Calls Try.prog 25 #[.int .u32 a.toNat, .int .u64 8] w fun e w' => e = .returned (.int .u32 (rotl a 8).toNat) ∧ w = w' := by
  go_enter Try.func25, Try.ntmps25
  go_wp2
  go_ret
  exact ⟨ret_u32 (rotl_8 a), rfl⟩
theorem left_7 (a : UInt32) (w : World) :
    Calls Try.prog 25 #[.int .u32 a.toNat, .int .u64 7] w fun e w' => e = .returned (.int .u32 (rotl a 7).toNat) ∧ w = w' := by
  go_enter Try.func25, Try.ntmps25
  go_wp2
  go_ret
  exact ⟨ret_u32 (rotl_7 a), rfl⟩

attribute [local go_sem] pl_walk xo_walk

/-- The quarter round, of chacha's own make. -/
theorem quarter_any (a b c d : UInt32) (w : World) :
    Calls Try.prog 24 #[.int .u32 a.toNat, .int .u32 b.toNat, .int .u32 c.toNat, .int .u32 d.toNat] w
      fun e w' => e = .returned (.tuple #[.int .u32 (qA a b c d).toNat, .int .u32 (qB a b c d).toNat, .int .u32 (qC a b c d).toNat, .int .u32 (qD a b c d).toNat]) ∧ w = w' := by
  go_enter Try.func24, Try.ntmps24
  go_wp2_with fail
  refine (rot_16 _ _).mono ?_; rintro e w' ⟨rfl, rfl⟩
  go_wp2_with fail
  refine (rot_12 _ _).mono ?_; rintro e w' ⟨rfl, rfl⟩
  go_wp2_with fail
  refine (rot_8 _ _).mono ?_; rintro e w' ⟨rfl, rfl⟩
  go_wp2_with fail
  refine (rot_7 _ _).mono ?_; rintro e w' ⟨rfl, rfl⟩
  go_wp2_with fail
  refine bodyPost_ret (told4 _ _ _ _ _ _ rfl _ _) rfl ?_
  exact ⟨rfl, rfl⟩
/-- The same, its results under names. -/
theorem quarter_v (a b c d : UInt32) (w : World) :
    Calls Try.prog 24 #[.int .u32 a.toNat, .int .u32 b.toNat, .int .u32 c.toNat, .int .u32 d.toNat] w
      fun e w' => ∃ A B C D : UInt32, e = .returned (.tuple #[.int .u32 A.toNat, .int .u32 B.toNat, .int .u32 C.toNat, .int .u32 D.toNat]) ∧ Hid (A = qA a b c d ∧ B = qB a b c d ∧ C = qC a b c d ∧ D = qD a b c d) ∧ w = w' :=
  (quarter_any a b c d w).mono fun _ _ ⟨he, hw⟩ => ⟨_, _, _, _, he, ⟨rfl, rfl, rfl, rfl⟩, hw⟩
end Go.Proofs.Ytkeincmmcdcggaa
