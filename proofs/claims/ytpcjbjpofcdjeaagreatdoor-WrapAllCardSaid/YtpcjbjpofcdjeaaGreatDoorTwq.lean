/- A told walk, a row a step. Plain laws, no program. -/
import Derived.Test.YtpcjbjpofcdjeaaGreatDoorTdMq
set_option linter.unusedVariables false
namespace Go.Proofs.YtpcjbjpofcdjeaaGreatDoor.Td
open Go Mm
section
variable {P : Program} {ops : Array Oper} {Q : Exit → Act → World → Prop} {w0 : World} {a : Act} {o : Oper} {rest : List Oper} {env : List (Option Tmp × Spec)} {m : Nat}
abbrev Does (P : Program) (w0 : World) (o : Oper) (F : (Tmp → Value) → Prop) (c : Value) : Prop := ∀ (W : World) (f : Tmp → Value), w0.grownBy W none → F f → ∀ K : Value → World → Prop, (∀ v W', W.grownBy W' none → isV c W' v → K v W') → Upon P K ((execOp (look f) o).run P W)
def TW (P : Program) (ops : Array Oper) (Q : Exit → Act → World → Prop) (w0 : World) (a : Act) (l : List Oper) (env : List (Option Tmp × Spec)) : Prop := ∃ Vs : List Spec, Vs.length = l.length ∧ toldWalk P ops Q (fun a b => a.grownBy b none) w0 a l Vs env
theorem tw_go {id : Nat} {w : World} (h : TW P ops Q w a ops.toList []) (hB : toldB a.tmps.size ops = true := by kernel_rfl) (hm : P.follows .mixedOrders = true := by kernel_rfl) : (Code.region id ops true).wp P Q a w :=
 h.elim fun Vs h => wp_region_told (le := fun a b => a.grownBy b none) Vs hm hB rfl (fun _ _ _ h k => gb_none h k) (gb_drew (gb_refl _ _)) h.2
theorem tw_tail {id : Nat} {w : World} (m : Nat) {oL : Oper} (h : TW P ops (Ends P Q oL) w a (ops.toList.take m) []) (hL : ops[m]? = some oL := by exact rfl) (hz : ops.size = m + 1 := by exact rfl) (hLd : oL.dst = none := by exact rfl) (hLg : oL.guard = none := by exact rfl) (hLw : ((List.range m).all fun i => oL.after.any fun e => Region.binds .any e && e.on == i) = true := by kernel_rfl) (hB : toldB a.tmps.size ops = true := by kernel_rfl) (hm : P.follows .mixedOrders = true := by kernel_rfl) : (Code.region id ops true).wp P Q a w :=
 h.elim fun Vs h => wp_region_told_tail (le := fun a b => a.grownBy b none) m oL Vs hm hB rfl hz hL hLd hLg hLw (by rw [h.1, List.length_take, Array.length_toList]; omega) (fun _ _ _ h k => gb_none h k) (gb_drew (gb_refl _ _)) h.2
theorem tw_at {V : Spec} (hs : Stays (fun a b => a.grownBy b none) V) (h1 : ToldOp P ops (fun a b => a.grownBy b none) w0 a o V env) (h2 : TW P ops Q w0 a rest ((o.dst, V) :: env)) : TW P ops Q w0 a (o :: rest) env :=
 h2.elim fun Vs h => ⟨V :: Vs, by simp [h.1], h1, hs, h.2⟩
theorem tw_is {c : Value} (h1 : ToldOp P ops (fun a b => a.grownBy b none) w0 a o (isV c) env) (h2 : TW P ops Q w0 a rest ((o.dst, isV c) :: env)) : TW P ops Q w0 a (o :: rest) env := tw_at stays_is h1 h2
theorem tw_no (j : Nat) {g t : Nat} {want : Bool} {v : Value} (h2 : TW P ops Q w0 a rest ((o.dst, isV undef) :: env))
  (hg : o.guard = some (g, want) := by exact rfl) (ht : dstAt ops g = some t := by exact rfl) (he : env[j]? = some (some t, isV v) := by exact rfl) (hc : (o.looksAt ops).contains t = true := by kernel_rfl) (hv : saysNo want v = true := by exact rfl) : TW P ops Q w0 a (o :: rest) env :=
 tw_is (fun W f hW hE h0 K hK => no_of (want_no hg ht (hE j t _ he hc) hv) (hK _ _ (gb_refl _ _) rfl)) h2
theorem tw_nil {a' : (Tmp → Value) → Act} (h : ∀ W f, w0.grownBy W none → KnownAll W f env → Q .normal (a' f) W) (he : ∀ f, lexIn f ops.toList a = a' f := by intro f; simp only [lexIn, Act.put, List.setIfInBounds_toArray, List.set_cons_zero, List.set_cons_succ]; rfl) : TW P ops Q w0 a [] env :=
 ⟨[], rfl, fun W f hW hA => by rw [he]; exact h W f hW hA⟩
theorem ck {fi : Nat} {args : Array Value} {W : World} {c : Value} {K : Value → World → Prop} (h : Calls P fi args W fun e w' => e = .returned c ∧ W.grownBy w' none) (hK : ∀ v W', W.grownBy W' none → isV c W' v → K v W') : Calls P fi args W fun e w' => ∃ v, e = .returned v ∧ K v w' :=
 h.mono fun e w' ⟨h1, h2⟩ => ⟨_, h1, hK _ _ h2 rfl⟩
theorem tw_e (j t : Nat) {v c : Value} (h2 : TW P ops Q w0 a rest ((o.dst, isV c) :: env)) (hg : o.guard = none := by exact rfl) (h1 : env[j]? = some (some t, isV v) := by exact rfl) (h3 : (o.looksAt ops).contains t = true := by kernel_rfl)
  (hx : Does P w0 o (fun f => f t = v) c := by intro W f hW e K hK; go_simp; exact kK hK) : TW P ops Q w0 a (o :: rest) env :=
 tw_is (fun W f hW hE h0 K hK => yes_f (hx W f hW (hE.of j t h1 h3) K hK) hg) h2
theorem tw_xe (j t : Nat) {v c : Value} (hx : Does P w0 o (fun f => f t = v) c) (h2 : TW P ops Q w0 a rest ((o.dst, isV c) :: env)) (hg : o.guard = none := by exact rfl) (h1 : env[j]? = some (some t, isV v) := by exact rfl) (h3 : (o.looksAt ops).contains t = true := by kernel_rfl) : TW P ops Q w0 a (o :: rest) env :=
 tw_is (fun W f hW hE h0 K hK => yes_f (hx W f hW (hE.of j t h1 h3) K hK) hg) h2
theorem tw_h (t : Nat) {v c : Value} (h2 : TW P ops Q w0 a rest ((o.dst, isV c) :: env)) (hg : o.guard = none := by exact rfl) (h1 : elder ops t = true := by kernel_rfl) (h3 : a.tmps.getD t undef = v := by (conv => lhs; whnf); try exact rfl)
  (hx : Does P w0 o (fun f => f t = v) c := by intro W f hW e K hK; go_simp; exact kK hK) : TW P ops Q w0 a (o :: rest) env :=
 tw_is (fun W f hW hE h0 K hK => yes_f (hx W f hW (h0.of t h1 h3) K hK) hg) h2
theorem tw_xh (t : Nat) {v c : Value} (hx : Does P w0 o (fun f => f t = v) c) (h2 : TW P ops Q w0 a rest ((o.dst, isV c) :: env)) (hg : o.guard = none := by exact rfl) (h1 : elder ops t = true := by kernel_rfl) (h3 : a.tmps.getD t undef = v := by (conv => lhs; whnf); try exact rfl) : TW P ops Q w0 a (o :: rest) env :=
 tw_is (fun W f hW hE h0 K hK => yes_f (hx W f hW (h0.of t h1 h3) K hK) hg) h2
theorem tw_ee (j t j' t' : Nat) {v v' c : Value} (h2 : TW P ops Q w0 a rest ((o.dst, isV c) :: env)) (hg : o.guard = none := by exact rfl) (h1 : env[j]? = some (some t, isV v) := by exact rfl) (h3 : (o.looksAt ops).contains t = true := by kernel_rfl) (h4 : env[j']? = some (some t', isV v') := by exact rfl) (h5 : (o.looksAt ops).contains t' = true := by kernel_rfl)
  (hx : Does P w0 o (fun f => f t = v ∧ f t' = v') c := by intro W f hW ⟨e, e'⟩ K hK; go_simp; exact kK hK) : TW P ops Q w0 a (o :: rest) env :=
 tw_is (fun W f hW hE h0 K hK => yes_f (hx W f hW ⟨hE.of j t h1 h3, hE.of j' t' h4 h5⟩ K hK) hg) h2
theorem tw_xee (j t j' t' : Nat) {v v' c : Value} (hx : Does P w0 o (fun f => f t = v ∧ f t' = v') c) (h2 : TW P ops Q w0 a rest ((o.dst, isV c) :: env)) (hg : o.guard = none := by exact rfl) (h1 : env[j]? = some (some t, isV v) := by exact rfl) (h3 : (o.looksAt ops).contains t = true := by kernel_rfl) (h4 : env[j']? = some (some t', isV v') := by exact rfl) (h5 : (o.looksAt ops).contains t' = true := by kernel_rfl) : TW P ops Q w0 a (o :: rest) env :=
 tw_is (fun W f hW hE h0 K hK => yes_f (hx W f hW ⟨hE.of j t h1 h3, hE.of j' t' h4 h5⟩ K hK) hg) h2
theorem tw_he (t j' t' : Nat) {v v' c : Value} (h2 : TW P ops Q w0 a rest ((o.dst, isV c) :: env)) (hg : o.guard = none := by exact rfl) (h1 : elder ops t = true := by kernel_rfl) (h3 : a.tmps.getD t undef = v := by (conv => lhs; whnf); try exact rfl) (h4 : env[j']? = some (some t', isV v') := by exact rfl) (h5 : (o.looksAt ops).contains t' = true := by kernel_rfl)
  (hx : Does P w0 o (fun f => f t = v ∧ f t' = v') c := by intro W f hW ⟨e, e'⟩ K hK; go_simp; exact kK hK) : TW P ops Q w0 a (o :: rest) env :=
 tw_is (fun W f hW hE h0 K hK => yes_f (hx W f hW ⟨h0.of t h1 h3, hE.of j' t' h4 h5⟩ K hK) hg) h2
theorem tw_xhe (t j' t' : Nat) {v v' c : Value} (hx : Does P w0 o (fun f => f t = v ∧ f t' = v') c) (h2 : TW P ops Q w0 a rest ((o.dst, isV c) :: env)) (hg : o.guard = none := by exact rfl) (h1 : elder ops t = true := by kernel_rfl) (h3 : a.tmps.getD t undef = v := by (conv => lhs; whnf); try exact rfl) (h4 : env[j']? = some (some t', isV v') := by exact rfl) (h5 : (o.looksAt ops).contains t' = true := by kernel_rfl) : TW P ops Q w0 a (o :: rest) env :=
 tw_is (fun W f hW hE h0 K hK => yes_f (hx W f hW ⟨h0.of t h1 h3, hE.of j' t' h4 h5⟩ K hK) hg) h2
theorem tw_ge (jg tg j t : Nat) {g : Nat} {want : Bool} {v c : Value} (h2 : TW P ops Q w0 a rest ((o.dst, isV c) :: env)) (hg : o.guard = some (g, want) := by exact rfl) (hd : dstAt ops g = some tg := by exact rfl) (h4 : env[jg]? = some (some tg, isV (.bool want)) := by exact rfl) (h5 : (o.looksAt ops).contains tg = true := by kernel_rfl) (h1 : env[j]? = some (some t, isV v) := by exact rfl) (h3 : (o.looksAt ops).contains t = true := by kernel_rfl)
  (hx : Does P w0 o (fun f => f t = v) c := by intro W f hW e K hK; go_simp; exact kK hK) : TW P ops Q w0 a (o :: rest) env :=
 tw_is (fun W f hW hE h0 K hK => yes_g (hE.of jg tg h4 h5) (hx W f hW (hE.of j t h1 h3) K hK) hg hd) h2
theorem tw_gh (jg tg t : Nat) {g : Nat} {want : Bool} {v c : Value} (h2 : TW P ops Q w0 a rest ((o.dst, isV c) :: env)) (hg : o.guard = some (g, want) := by exact rfl) (hd : dstAt ops g = some tg := by exact rfl) (h4 : env[jg]? = some (some tg, isV (.bool want)) := by exact rfl) (h5 : (o.looksAt ops).contains tg = true := by kernel_rfl) (h1 : elder ops t = true := by kernel_rfl) (h3 : a.tmps.getD t undef = v := by (conv => lhs; whnf); try exact rfl)
  (hx : Does P w0 o (fun f => f t = v) c := by intro W f hW e K hK; go_simp; exact kK hK) : TW P ops Q w0 a (o :: rest) env :=
 tw_is (fun W f hW hE h0 K hK => yes_g (hE.of jg tg h4 h5) (hx W f hW (h0.of t h1 h3) K hK) hg hd) h2
def TH (P : Program) (ops : Array Oper) (Q : Exit → Act → World → Prop) (w0 : World) (a : Act) (m : Nat) (l : List Oper) (env : List (Option Tmp × Spec)) : Prop := ∃ Vs : List Spec, Vs.length = l.length ∧ Tm.toldHead P ops Q (fun a b => a.grownBy b none) w0 a m l Vs env
theorem th_go {id : Nat} {w : World} (m : Nat) (h : TH P ops Q w a m (ops.toList.take m) []) (hC : (decide (m < ops.size) && Region.sinkB .any ops m && Region.chainB .any ops m && Region.seqB .any ops (ops.size - m) m (firsts m (ops.size - m))) = true := by kernel_rfl) (hB : Tm.toldB a.tmps.size m ops = true := by kernel_rfl) (hm : P.follows .mixedOrders = true := by kernel_rfl) : (Code.region id ops true).wp P Q a w :=
 h.elim fun Vs h => Tm.wp_region_told_list (le := fun a b => a.grownBy b none) m Vs hm hB rfl hC (by
  have hC' := hC
  simp only [Bool.and_eq_true, decide_eq_true_eq] at hC'
  rw [h.1, List.length_take, Array.length_toList]; omega) (fun _ _ _ h k => gb_none h k) (gb_drew (gb_refl _ _)) h.2
theorem th_at {V : Spec} (hs : Stays (fun a b => a.grownBy b none) V) (h1 : Tm.ToldOp P ops m (fun a b => a.grownBy b none) w0 a o V env) (h2 : TH P ops Q w0 a m rest ((o.dst, V) :: env)) : TH P ops Q w0 a m (o :: rest) env :=
 h2.elim fun Vs h => ⟨V :: Vs, by simp [h.1], h1, hs, h.2⟩
theorem th_is {c : Value} (h1 : Tm.ToldOp P ops m (fun a b => a.grownBy b none) w0 a o (isV c) env) (h2 : TH P ops Q w0 a m rest ((o.dst, isV c) :: env)) : TH P ops Q w0 a m (o :: rest) env := th_at stays_is h1 h2
theorem th_e (j t : Nat) {v c : Value} (h2 : TH P ops Q w0 a m rest ((o.dst, isV c) :: env)) (hg : o.guard = none := by exact rfl) (h1 : env[j]? = some (some t, isV v) := by exact rfl) (h3 : (o.looksAt ops).contains t = true := by kernel_rfl)
  (hx : Does P w0 o (fun f => f t = v) c := by intro W f hW e K hK; go_simp; exact kK hK) : TH P ops Q w0 a m (o :: rest) env :=
 th_is (fun W f hW hE h0 K hK => yes_f (hx W f hW (hE.of j t h1 h3) K hK) hg) h2
theorem th_h (t : Nat) {v c : Value} (h2 : TH P ops Q w0 a m rest ((o.dst, isV c) :: env)) (hg : o.guard = none := by exact rfl) (h1 : Tm.elder ops m t = true := by kernel_rfl) (h3 : a.tmps.getD t undef = v := by (conv => lhs; whnf); try exact rfl)
  (hx : Does P w0 o (fun f => f t = v) c := by intro W f hW e K hK; go_simp; exact kK hK) : TH P ops Q w0 a m (o :: rest) env :=
 th_is (fun W f hW hE h0 K hK => yes_f (hx W f hW ((h0 t h1).trans h3) K hK) hg) h2
theorem th_nil (h : ∀ W f, w0.grownBy W none → KnownAll W f env → wpList P ops Q (ops.toList.drop m) (lexIn f (ops.toList.take m) a) W) : TH P ops Q w0 a m [] env := ⟨[], rfl, h⟩
end
end Go.Proofs.YtpcjbjpofcdjeaaGreatDoor.Td
