/- A region that draws its order, walked once: for each operation a word on the value that it leaves, which stays right as the world grows. Plain laws, no program. Short forms of a told walk's steps: what is known of a slot, an operation that its guard passes over. Plain laws, no program. A region that draws its order and ends in one operation that waits for all others (a store, say): walked once, its end by itself. Plain laws, no program. A region that draws its order, whose last operations come one behind the other: the first ones by wp_region_told's walk, the last ones as a plain list. Plain laws, no program. -/
import Derived.Orders
import Derived.Tactics
import Derived.Test.YtpcjbjpofcdjeaaGreatDoorBaseq
namespace Go.Proofs.YtpcjbjpofcdjeaaGreatDoor.Td
open Go
theorem named {P : Program} {c : Code} {Q : Exit → Act → World → Prop} {a : Act} {W0 : World} (R : World → Prop) (h0 : R W0) (h : ∀ W, R W → c.wp P Q a W) : c.wp P Q a W0 := h W0 h0
abbrev Spec := World → Value → Prop
def isV (c : Value) : Spec := fun _ v => v = c
def dstAt (ops : Array Oper) (i : Nat) : Option Tmp := (ops[i]?).bind (·.dst)
def waits (o : Oper) (j : Nat) : Bool := o.after.any fun e => Region.binds .any e && e.on == j
def toldB (n : Nat) (ops : Array Oper) : Bool :=
 Region.noSelect ops && (List.range ops.size).all fun i =>
  match ops[i]? with
  | none => true
  | some o =>
   (o.after.all fun e => !Region.binds .any e || Nat.blt e.on i) &&
   (match o.dst with
    | none => true
    | some d => Nat.blt d n && (List.range ops.size).all fun j => j == i || !(dstAt ops j == some d)) &&
   (o.looksAt ops).all fun t => (List.range ops.size).all fun j => !(dstAt ops j == some t) || (Nat.blt j i && waits o j)
structure Fine (n : Nat) (ops : Array Oper) : Prop where
 sel : ∀ (j : Nat) (o : Oper) cs b, ops[j]? = some o → o.op ≠ .select cs b
 back : ∀ i o, ops[i]? = some o → ∀ e ∈ o.after, Region.binds .any e = true → e.on < i
 fits : ∀ i d, dstAt ops i = some d → d < n
 once : ∀ i j d, dstAt ops i = some d → dstAt ops j = some d → j = i
 looks : ∀ i o, ops[i]? = some o → ∀ t ∈ o.looksAt ops, ∀ j, dstAt ops j = some t → j < i ∧ ∃ e ∈ o.after, Region.binds .any e = true ∧ e.on = j
theorem lt_of_dst {ops : Array Oper} {i : Nat} {d : Tmp} (h : dstAt ops i = some d) : i < ops.size := by
 unfold dstAt at h
 rcases Nat.lt_or_ge i ops.size with h' | h'
 ·exact h'
 ·rw [Array.getElem?_eq_none h'] at h; cases h
theorem fine_of {n : Nat} {ops : Array Oper} (h : toldB n ops = true) : Fine n ops := by
 unfold toldB at h
 rw [Bool.and_eq_true, List.all_eq_true] at h
 obtain ⟨hs, h⟩ := h
 have at_ : ∀ i o, ops[i]? = some o → _ := fun i o ho => by
  have := h i (List.mem_range.2 (Array.getElem?_eq_some_iff.1 ho).1)
  rw [ho] at this
  simp only [Bool.and_eq_true] at this
  exact this
 have dst_ : ∀ i d, dstAt ops i = some d → ∃ o, ops[i]? = some o ∧ o.dst = some d := fun i d hd => by
  unfold dstAt at hd
  cases ho : ops[i]? with
  | none => rw [ho] at hd; cases hd
  | some o => rw [ho] at hd; exact ⟨o, rfl, hd⟩
 refine ⟨Region.noSelect_spec hs, ?_, ?_, ?_, ?_⟩
 ·intro i o ho e he hb
  have := (at_ i o ho).1.1
  rw [Array.all_eq_true_iff_forall_mem] at this
  have := this e he
  rw [hb] at this
  simpa using this
 ·intro i d hd
  obtain ⟨o, ho, hd'⟩ := dst_ i d hd
  have := (at_ i o ho).1.2
  rw [hd'] at this
  simp only [Bool.and_eq_true] at this
  simpa using this.1
 ·intro i j d hi hj
  obtain ⟨o, ho, hd'⟩ := dst_ i d hi
  have := (at_ i o ho).1.2
  rw [hd'] at this
  simp only [Bool.and_eq_true, List.all_eq_true] at this
  have := this.2 j (List.mem_range.2 (lt_of_dst hj))
  rw [hj] at this
  simpa using this
 ·intro i o ho t ht j hj
  have := (at_ i o ho).2
  rw [List.all_eq_true] at this
  have := this t ht
  rw [List.all_eq_true] at this
  have := this j (List.mem_range.2 (lt_of_dst hj))
  rw [hj] at this
  simp only [beq_self_eq_true, Bool.not_true, Bool.false_or, Bool.and_eq_true] at this
  refine ⟨by simpa using this.1, ?_⟩
  have hw := this.2
  unfold waits at hw
  obtain ⟨e, he, hb⟩ := Array.any_eq_true'.1 hw
  simp only [Bool.and_eq_true, beq_iff_eq] at hb
  exact ⟨e, he, hb.1, hb.2⟩
def look (f : Tmp → Value) : Operand → Value
 | .tmp t => f t
 | .const v => v
 | .global g => .pointer (some ⟨g, 0, none⟩)
 | .func k => .func (.func k) #[] #[]
theorem look_tmp (f : Tmp → Value) (t : Tmp) : look f (.tmp t) = f t := rfl
theorem look_const (f : Tmp → Value) (v : Value) : look f (.const v) = v := rfl
theorem look_global (f : Tmp → Value) (g : Nat) : look f (.global g) = .pointer (some ⟨g, 0, none⟩) := rfl
theorem look_func (f : Tmp → Value) (k : Nat) : look f (.func k) = .func (.func k) #[] #[] := rfl
def slots (a : Act) : Tmp → Value := fun t => a.tmps.getD t undef
theorem eval_look (a : Act) : a.eval = look (slots a) := by
 funext x; cases x <;> rfl
def Back (K : Value → World → Prop) (e : Ending) (w : World) : Prop := ∃ v, e = .returned v ∧ K v w
def Upon (P : Program) (K : Value → World → Prop) : Result Next → Prop
 | .ok (.value v) w' => K v w'
 | .ok .skip w' => K undef w'
 | .ok (.enter f args) w' => Calls P f args w' (Back K)
 | .ok (.row row args) w' => Rows P row args w' K
 | _ => False
section
variable {P : Program} {K : Value → World → Prop} {w : World}
theorem upon_value (v : Value) : Upon P K (.ok (.value v) w) = K v w := rfl
theorem upon_skip : Upon P K (.ok .skip w) = K undef w := rfl
theorem upon_enter (f : FuncId) (args : Array Value) : Upon P K (.ok (.enter f args) w) = Calls P f args w (Back K) := rfl
theorem upon_row (row : String) (args : Array Value) : Upon P K (.ok (.row row args) w) = Rows P row args w K := rfl
end
section
variable {P : Program} {ops : Array Oper} {Q : Exit → Act → World → Prop} {le : World → World → Prop}
def wantedIn (ops : Array Oper) (f : Tmp → Value) (o : Oper) : Bool :=
 match o.guard with
 | none => true
 | some (g, want) => match dstAt ops g with
  | some t => match f t with
   | .bool b => b == want
   | _ => false
  | none => false
theorem want_yes {f : Tmp → Value} {o : Oper} {g t : Nat} {want : Bool} (hg : o.guard = some (g, want)) (ht : dstAt ops g = some t) (hf : f t = .bool want) : wantedIn ops f o = true := by
 unfold wantedIn
 rw [hg]; simp only []
 rw [ht]; simp only []
 rw [hf]; simp
theorem want_free {f : Tmp → Value} {o : Oper} (hg : o.guard = none) : wantedIn ops f o = true := by
 unfold wantedIn
 rw [hg]
theorem yes_of {c : Bool} {A B : Prop} (h : c = true) (k : A) : if c = true then A else B := by rw [if_pos h]; exact k
theorem no_of {c : Bool} {A B : Prop} (h : ¬ c = true) (k : B) : if c = true then A else B := by rw [if_neg h]; exact k
def saysNo (want : Bool) (v : Value) : Bool := match v with | .bool b => !(b == want) | _ => true
theorem want_no {f : Tmp → Value} {o : Oper} {g t : Nat} {want : Bool} {v : Value} (hg : o.guard = some (g, want)) (ht : dstAt ops g = some t) (hf : f t = v) (hv : saysNo want v = true) : ¬ wantedIn ops f o = true := by
 unfold wantedIn
 rw [hg]; simp only []
 rw [ht]; simp only []
 rw [hf]
 unfold saysNo at hv
 cases v <;> simp_all
def Known (ops : Array Oper) (o : Oper) (W : World) (f : Tmp → Value) (env : List (Option Tmp × Spec)) : Prop :=
 ∀ (j : Nat) (t : Tmp) (V : Spec), env[j]? = some (some t, V) → (o.looksAt ops).contains t = true → V W (f t)
def KnownAll (W : World) (f : Tmp → Value) (env : List (Option Tmp × Spec)) : Prop :=
 ∀ (j : Nat) (d : Option Tmp) (V : Spec), env[j]? = some (d, V) → match d with | some t => V W (f t) | none => ∃ v, V W v
def elder (ops : Array Oper) (t : Tmp) : Bool := (List.range ops.size).all fun j => !(dstAt ops j == some t)
def Elder (ops : Array Oper) (a : Act) (f : Tmp → Value) : Prop := ∀ t, elder ops t = true → f t = a.tmps.getD t undef
def ToldOp (P : Program) (ops : Array Oper) (le : World → World → Prop) (w0 : World) (a : Act) (o : Oper) (V : Spec) (env : List (Option Tmp × Spec)) : Prop :=
 ∀ W f, le w0 W → Known ops o W f env → Elder ops a f → ∀ K : Value → World → Prop, (∀ v W', le W W' → V W' v → K v W') →
  if wantedIn ops f o = true then Upon P K ((execOp (look f) o).run P W) else K undef W
def Stays (le : World → World → Prop) (V : Spec) : Prop := ∀ W W' v, le W W' → V W v → V W' v
theorem stays_is {c : Value} : Stays le (isV c) := fun _ _ _ _ h => h
def lexAt (ops : Array Oper) (f : Tmp → Value) (a : Act) : Nat → Act
 | 0 => a
 | i + 1 => match dstAt ops i with
  | some d => (lexAt ops f a i).put (some d) (f d)
  | none => lexAt ops f a i
def lexIn (f : Tmp → Value) : List Oper → Act → Act
 | [], a => a
 | o :: rest, a => lexIn f rest (match o.dst with | some d => a.put (some d) (f d) | none => a)
def toldWalk (P : Program) (ops : Array Oper) (Q : Exit → Act → World → Prop) (le : World → World → Prop) (w0 : World) (a : Act) : List Oper → List Spec → List (Option Tmp × Spec) → Prop
 | [], _, env => ∀ W f, le w0 W → KnownAll W f env → Q .normal (lexIn f ops.toList a) W
 | _ :: _, [], _ => False
 | o :: rest, V :: Vs, env => ToldOp P ops le w0 a o V env ∧ Stays le V ∧ toldWalk P ops Q le w0 a rest Vs ((o.dst, V) :: env)
theorem told_is {w0 : World} {a : Act} {o : Oper} {rest : List Oper} {Vs : List Spec} {env : List (Option Tmp × Spec)} {c : Value} (h1 : ToldOp P ops le w0 a o (isV c) env) (h2 : toldWalk P ops Q le w0 a rest Vs ((o.dst, isV c) :: env)) :
  toldWalk P ops Q le w0 a (o :: rest) (isV c :: Vs) env := ⟨h1, stays_is, h2⟩
theorem told_at {w0 : World} {a : Act} {o : Oper} {rest : List Oper} {V : Spec} {Vs : List Spec} {env : List (Option Tmp × Spec)} (hs : Stays le V) (h1 : ToldOp P ops le w0 a o V env) (h2 : toldWalk P ops Q le w0 a rest Vs ((o.dst, V) :: env)) :
  toldWalk P ops Q le w0 a (o :: rest) (V :: Vs) env := ⟨h1, hs, h2⟩
def envAt (ops : Array Oper) (Vs : Nat → Spec) : Nat → List (Option Tmp × Spec)
 | 0 => []
 | i + 1 => (dstAt ops i, Vs i) :: envAt ops Vs i
theorem env_at {Vs : Nat → Spec} {i j : Nat} {d : Option Tmp} {V : Spec} (h : (envAt ops Vs i)[j]? = some (d, V)) : ∃ k, k < i ∧ dstAt ops k = d ∧ Vs k = V := by
 induction i generalizing j with
 | zero => simp [envAt] at h
 | succ i ih =>
  cases j with
  | zero =>
   simp only [envAt, List.getElem?_cons_zero, Option.some.injEq, Prod.mk.injEq] at h
   exact ⟨i, by omega, h.1, h.2⟩
  | succ j =>
   simp only [envAt, List.getElem?_cons_succ] at h
   obtain ⟨k, h1, h2⟩ := ih h
   exact ⟨k, by omega, h2⟩
theorem told_parts {w0 : World} {a : Act} (Vs : List Spec) : ∀ (l : List Oper) (k : Nat), (∀ j, l[j]? = ops[k + j]?) →
  toldWalk P ops Q le w0 a l (Vs.drop k) (envAt ops (fun j => Vs.getD j (fun _ _ => False)) k) →
  (∀ i o, k ≤ i → ops[i]? = some o → ToldOp P ops le w0 a o (Vs.getD i (fun _ _ => False)) (envAt ops (fun j => Vs.getD j (fun _ _ => False)) i) ∧ Stays le (Vs.getD i (fun _ _ => False))) ∧
  (∀ W f, le w0 W → KnownAll W f (envAt ops (fun j => Vs.getD j (fun _ _ => False)) (k + l.length)) → Q .normal (lexIn f ops.toList a) W) := by
 intro l
 induction l with
 | nil =>
  intro k hl h
  refine ⟨fun i o hk ho => ?_, fun W f hW hE => h W f hW hE⟩
  have := hl (i - k)
  rw [show k + (i - k) = i by omega, ho] at this
  simp at this
 | cons o l ih =>
  intro k hl h
  have ho : ops[k]? = some o := by simpa using (hl 0).symm
  have hd : dstAt ops k = o.dst := by unfold dstAt; rw [ho]; rfl
  cases hV : Vs.drop k with
  | nil => rw [hV] at h; exact h.elim
  | cons V Vs' =>
   rw [hV] at h
   obtain ⟨h1, h2, h3⟩ := h
   have hg : Vs.getD k (fun _ _ => False) = V := by
    rw [List.getD_eq_getElem?_getD]
    have : (Vs.drop k)[0]? = some V := by rw [hV]; rfl
    rw [List.getElem?_drop] at this
    simp only [Nat.add_zero] at this
    rw [this]; rfl
   have hV' : Vs.drop (k + 1) = Vs' := by
    rw [← List.drop_drop, hV]; rfl
   rw [← hV', ← hd, ← hg] at h3
   have h5 := ih (k + 1) (fun j => by have := hl (j + 1); simpa [Nat.add_assoc, Nat.add_comm 1 j] using this) h3
   refine ⟨fun i o' hk ho' => ?_, ?_⟩
   ·rcases Nat.eq_or_lt_of_le hk with e | hlt
    ·subst e
     rw [ho] at ho'
     cases ho'
     rw [hg]
     exact ⟨h1, h2⟩
    ·exact h5.1 i o' hlt ho'
   ·have := h5.2
    rw [show k + 1 + l.length = k + (o :: l).length by simp; omega] at this
    exact this
theorem put_size (a : Act) (d : Option Tmp) (v : Value) : (a.put d v).tmps.size = a.tmps.size := by cases d <;> simp [Act.put]
theorem put_defers_ (a : Act) (d : Option Tmp) (v : Value) : (a.put d v).defers = a.defers := by cases d <;> rfl
theorem put_far {a : Act} {d : Option Tmp} {v : Value} {t : Tmp} (h : d ≠ some t) : (a.put d v).tmps[t]? = a.tmps[t]? := by
 cases d with
 | none => rfl
 | some d => simp only [Act.put]; exact Array.getElem?_setIfInBounds_ne fun e => h (by rw [e])
theorem put_at {a : Act} {d : Tmp} {v : Value} (h : d < a.tmps.size) : (a.put (some d) v).tmps[d]? = some v := by simp [Act.put, h]
theorem slots_of {a : Act} {t : Tmp} {v : Value} (h : a.tmps[t]? = some v) : slots a t = v := by
 unfold slots; rw [Array.getD_eq_getD_getElem?, h]; rfl
theorem slots_get {a : Act} {t : Tmp} (h : t < a.tmps.size) : a.tmps[t]? = some (slots a t) := by
 unfold slots; rw [Array.getD_eq_getD_getElem?, Array.getElem?_eq_getElem h]; rfl
theorem slots_like {a b : Act} {t : Tmp} (h : a.tmps[t]? = b.tmps[t]?) : slots a t = b.tmps.getD t undef := by
 unfold slots; rw [Array.getD_eq_getD_getElem?, Array.getD_eq_getD_getElem?, h]
theorem lexIn_at (f : Tmp → Value) : ∀ (l : List Oper) (k : Nat) (a : Act), (∀ j, l[j]? = ops[k + j]?) → lexIn f l (lexAt ops f a k) = lexAt ops f a (k + l.length) := by
 intro l
 induction l with
 | nil => intro k a _; rfl
 | cons o l ih =>
  intro k a hl
  have ho : ops[k]? = some o := by simpa using (hl 0).symm
  have hd : dstAt ops k = o.dst := by unfold dstAt; rw [ho]; rfl
  have e : (match o.dst with | some d => (lexAt ops f a k).put (some d) (f d) | none => lexAt ops f a k) = lexAt ops f a (k + 1) := by
   rw [lexAt, hd]
  rw [lexIn, e, ih (k + 1) a (fun j => by have := hl (j + 1); simpa [Nat.add_assoc, Nat.add_comm 1 j] using this)]
  rw [show k + 1 + l.length = k + (o :: l).length by simp; omega]
theorem lexIn_all (f : Tmp → Value) (a : Act) : lexIn f ops.toList a = lexAt ops f a ops.size := by
 have := lexIn_at (ops := ops) f ops.toList 0 a (fun j => by rw [Nat.zero_add, Array.getElem?_toList])
 rw [Nat.zero_add, Array.length_toList] at this
 exact this
theorem lex_size (f : Tmp → Value) (a : Act) (i : Nat) : (lexAt ops f a i).tmps.size = a.tmps.size := by
 induction i with
 | zero => rfl
 | succ i ih =>
  rw [lexAt]
  cases dstAt ops i with
  | none => exact ih
  | some d => simp only [put_size, ih]
theorem lex_defers (f : Tmp → Value) (a : Act) (i : Nat) : (lexAt ops f a i).defers = a.defers := by
 induction i with
 | zero => rfl
 | succ i ih =>
  rw [lexAt]
  cases dstAt ops i with
  | none => exact ih
  | some d => simp only [put_defers_, ih]
theorem lex_old {f : Tmp → Value} {a : Act} {t : Tmp} (i : Nat) (h : ∀ j, j < i → dstAt ops j ≠ some t) : (lexAt ops f a i).tmps[t]? = a.tmps[t]? := by
 induction i with
 | zero => rfl
 | succ i ih =>
  rw [lexAt]
  cases hd : dstAt ops i with
  | none => exact ih fun j hj => h j (by omega)
  | some d => simp only []; rw [put_far (fun e => h i (by omega) (hd.trans e)), ih fun j hj => h j (by omega)]
theorem lex_new {f : Tmp → Value} {a : Act} {j d : Nat} (hn : d < a.tmps.size) (hd : dstAt ops j = some d) (i : Nat) (hj : j < i) : (lexAt ops f a i).tmps[d]? = some (f d) := by
 induction i with
 | zero => omega
 | succ i ih =>
  rw [lexAt]
  cases hi : dstAt ops i with
  | none =>
   have hne : j ≠ i := fun e => by rw [e, hi] at hd; cases hd
   exact ih (by omega)
  | some d' =>
   simp only []
   by_cases e : d' = d
   ·subst e; rw [put_at (by rw [lex_size]; exact hn)]
   ·have hne : j ≠ i := fun e' => by rw [e', hi] at hd; cases hd; exact e rfl
    rw [put_far (fun e' => e (by cases e'; rfl)), ih (by omega)]
theorem wanted_in {a : Act} {n : Nat} (hF : Fine n ops) (hn : a.tmps.size = n) (o : Oper) : Region.wanted o (yielded ops a.tmps) = wantedIn ops (slots a) o := by
 unfold Region.wanted wantedIn
 cases o.guard with
 | none => rfl
 | some gw =>
  obtain ⟨g, want⟩ := gw
  have hy : yielded ops a.tmps g = match (dstAt ops g).bind (fun t => a.tmps[t]?) with | some (Value.bool b) => some b | _ => none := rfl
  simp only [hy]
  cases ht : dstAt ops g with
  | none => rfl
  | some t =>
   simp only [Option.bind_some]
   rw [slots_get (by rw [hn]; exact hF.fits g t ht)]
   cases slots a t <;> rfl
structure Inv (ops : Array Oper) (le : World → World → Prop) (w0 : World) (a0 : Act) (Vs : Nat → Spec) (listed : Array Bool) (a : Act) (W : World) : Prop where
 hle : le w0 W
 hdef : a.defers = a0.defers
 hsz : a.tmps.size = a0.tmps.size
 hls : listed.size = ops.size
 hold : ∀ t, (∀ i, dstAt ops i = some t → listed.getD i true = false) → a.tmps[t]? = a0.tmps[t]?
 hnew : ∀ i, listed.getD i false = true → i < ops.size → match dstAt ops i with | some d => Vs i W (slots a d) | none => ∃ v, Vs i W v
theorem listed_or {listed : Array Bool} {i : Nat} (h : i < listed.size) : listed.getD i true = listed.getD i false := by
 simp [h]
theorem all_listed {n : Nat} (hF : Fine n ops) {listed : Array Bool} (hs : listed.size = ops.size) (hr : Region.ready .any ops listed = []) : ∀ i, i < ops.size → listed.getD i false = true := by
 intro i
 induction i using Nat.strongRecOn with
 | ind i ih =>
  intro hi
  cases hb : listed.getD i false with
  | true => rfl
  | false =>
   exfalso
   obtain ⟨o, ho⟩ : ∃ o, ops[i]? = some o := ⟨_, Array.getElem?_eq_getElem hi⟩
   have : i ∈ Region.ready .any ops listed := mem_ready.2 ⟨by rw [listed_or (by omega), hb], o, ho, fun e he hbd => ih e.on (hF.back i o ho e he hbd) (by have := hF.back i o ho e he hbd; omega)⟩
   rw [hr] at this
   cases this
theorem all_lex {n : Nat} (hF : Fine n ops) {w0 : World} {a0 : Act} (hn : a0.tmps.size = n) {Vs : Nat → Spec} {listed : Array Bool} {a : Act} {W : World} (hI : Inv ops le w0 a0 Vs listed a W) :
  (∀ i, i < ops.size → listed.getD i false = true) → a = lexAt ops (slots a) a0 ops.size := by
 intro _
 have ht : a.tmps = (lexAt ops (slots a) a0 ops.size).tmps := by
  apply Array.ext_getElem?
  intro t
  by_cases h : ∃ j, dstAt ops j = some t
  ·obtain ⟨j, hj⟩ := h
   have hlt := hF.fits j t hj
   rw [lex_new (by rw [hn]; exact hlt) hj _ (lt_of_dst hj), slots_get (by rw [hI.hsz, hn]; exact hlt)]
  ·rw [hI.hold t (fun i hi => absurd ⟨i, hi⟩ h), lex_old _ (fun j _ e => h ⟨j, e⟩)]
 have hd : a.defers = (lexAt ops (slots a) a0 ops.size).defers := by rw [hI.hdef, lex_defers]
 generalize lexAt ops (slots a) a0 ops.size = b at *
 obtain ⟨t, d⟩ := a
 obtain ⟨t', d'⟩ := b
 cases ht; cases hd; rfl
theorem countP_less {p q : Nat → Bool} {i : Nat} : ∀ (l : List Nat), (∀ x ∈ l, p x = true → q x = true) → i ∈ l → p i = false → q i = true → l.countP p < l.countP q
 | [], _, hi, _, _ => by cases hi
 | x :: l, h, hi, hp, hq => by
  have hm : l.countP p ≤ l.countP q := List.countP_mono_left fun y hy => h y (by simp [hy])
  rcases List.mem_cons.1 hi with e | hi
  ·subst e
   rw [List.countP_cons, List.countP_cons, hp, hq]
   simp; omega
  ·have := countP_less l (fun y hy => h y (by simp [hy])) hi hp hq
   have hx := h x (by simp)
   rw [List.countP_cons, List.countP_cons]
   cases hpx : p x with
   | false => simp; omega
   | true => rw [hx hpx]; simp; omega
theorem inv_next {n : Nat} (hF : Fine n ops) (ht : ∀ a b c, le a b → le b c → le a c) {w0 : World} {a0 : Act} (hn : a0.tmps.size = n) {Vs : Nat → Spec} (hst : ∀ i, i < ops.size → Stays le (Vs i)) {listed : Array Bool} {a : Act} {W W' : World} (hI : Inv ops le w0 a0 Vs listed a W)
  {i : Nat} (hi : i < ops.size) {v : Value} (hle : le W W') (hV : Vs i W' v) : Inv ops le w0 a0 Vs (listed.setIfInBounds i true) (a.put (dstAt ops i) v) W' := by
 have hset : (listed.setIfInBounds i true).getD i true = true := by simp [hI.hls, hi]
 refine ⟨ht _ _ _ hI.hle hle, by rw [put_defers_, hI.hdef], by rw [put_size, hI.hsz], by simp [hI.hls], fun t h => ?_, fun j hj hjs => ?_⟩
 ·have hne : dstAt ops i ≠ some t := fun e => by rw [h i e] at hset; cases hset
  rw [put_far hne]
  refine hI.hold t fun j hj => ?_
  have hji : i ≠ j := fun e => hne (e ▸ hj)
  have := h j hj
  rw [getD_set_ne true hji] at this
  exact this
 ·by_cases e : j = i
  ·subst e
   cases hd : dstAt ops j with
   | none => exact ⟨v, hV⟩
   | some d =>
    simp only []
    rw [slots_of (put_at (by rw [hI.hsz, hn]; exact hF.fits j d hd))]
    exact hV
  ·rw [getD_set_ne false (Ne.symm e)] at hj
   have h1 := hI.hnew j hj hjs
   cases hd : dstAt ops j with
   | none =>
    rw [hd] at h1
    obtain ⟨v, h1⟩ := h1
    exact ⟨v, hst j hjs _ _ _ hle h1⟩
   | some d =>
    rw [hd] at h1
    simp only []
    have : slots (a.put (dstAt ops i) v) d = slots a d := slots_like (put_far (fun e' => e (hF.once i j d e' hd)))
    rw [this]
    exact hst j hjs _ _ _ hle h1
theorem told_any {n : Nat} (hF : Fine n ops) (ht : ∀ a b c, le a b → le b c → le a c) {w0 : World} {a0 : Act} (hn : a0.tmps.size = n) {Vs : Nat → Spec}
  (hop : ∀ i o, ops[i]? = some o → ToldOp P ops le w0 a0 o (Vs i) (envAt ops Vs i) ∧ Stays le (Vs i))
  (hend : ∀ W f, le w0 W → KnownAll W f (envAt ops Vs ops.size) → Q .normal (lexAt ops f a0 ops.size) W) :
  ∀ (fuel : Nat) (listed : Array Bool) (a : Act) (W : World), Inv ops le w0 a0 Vs listed a W → (List.range ops.size).countP (fun i => !listed.getD i true) ≤ fuel → wpAny P .any ops Q fuel listed a W := by
 have done : ∀ (listed : Array Bool) (a : Act) (W : World), Inv ops le w0 a0 Vs listed a W → (∀ i, i < ops.size → listed.getD i false = true) → Q .normal a W := fun listed a W hI hall => by
  rw [all_lex hF hn hI hall]
  refine hend W (slots a) hI.hle fun j d V hj => ?_
  obtain ⟨k, hk, hdk, hVk⟩ := env_at hj
  have := hI.hnew k (hall k hk) hk
  rw [hdk, hVk] at this
  exact this
 intro fuel
 induction fuel with
 | zero =>
  intro listed a W hI hc
  have hall : ∀ i, i < ops.size → listed.getD i false = true := fun i hi => by
   have h0 := List.countP_eq_zero.1 (Nat.le_zero.1 hc) i (List.mem_range.2 hi)
   rw [← listed_or (by rw [hI.hls]; exact hi)]
   simpa using h0
  refine ⟨?_, done _ _ _ hI hall⟩
  cases hr : Region.ready .any ops listed with
  | nil => rfl
  | cons i rs =>
   have : i ∈ Region.ready .any ops listed := by rw [hr]; simp
   obtain ⟨h0, o, ho, _⟩ := mem_ready.1 this
   have hi := (Array.getElem?_eq_some_iff.1 ho).1
   rw [listed_or (by rw [hI.hls]; exact hi), hall i hi] at h0
   cases h0
 | succ fuel ih =>
  intro listed a W hI hc
  refine ⟨fun hr => done _ _ _ hI (all_listed hF hI.hls hr), fun i hr => ?_⟩
  obtain ⟨h0, o, ho, hall⟩ := mem_ready.1 hr
  have hi := (Array.getElem?_eq_some_iff.1 ho).1
  have hd : dstAt ops i = o.dst := by unfold dstAt; rw [ho]; rfl
  have hkn : Known ops o W (slots a) (envAt ops Vs i) := fun j t V hj hc => by
   obtain ⟨k, hk, hdk, hVk⟩ := env_at hj
   obtain ⟨_, e, he, hb, h2⟩ := hF.looks i o ho t (by simpa using hc) k hdk
   have := hI.hnew k (by rw [← h2]; exact hall e he hb) (by omega)
   rw [hdk, hVk] at this
   exact this
  have hel : Elder ops a0 (slots a) := fun t h => slots_like (hI.hold t fun j hj => by
   unfold elder at h
   rw [List.all_eq_true] at h
   have := h j (List.mem_range.2 (lt_of_dst hj))
   rw [hj] at this
   simp at this)
  have hnext : ∀ v W', le W W' → Vs i W' v → wpAny P .any ops Q fuel (listed.setIfInBounds i true) (a.put o.dst v) W' := fun v W' h1 h2 => by
   rw [← hd]
   refine ih _ _ _ (inv_next hF ht hn (fun j hj => (hop j _ (Array.getElem?_eq_getElem hj)).2) hI hi h1 h2) ?_
   have := countP_less (p := fun j => !(listed.setIfInBounds i true).getD j true) (q := fun j => !listed.getD j true) (i := i) (List.range ops.size) (fun x _ hx => by
    by_cases e : i = x
    ·subst e; simp [hI.hls, hi] at hx
    ·rw [getD_set_ne true e] at hx; exact hx) (List.mem_range.2 hi) (by simp [hI.hls, hi]) (by rw [h0]; rfl)
   omega
  have hT := (hop i o ho).1 W (slots a) hI.hle hkn hel (fun v W' => wpAny P .any ops Q fuel (listed.setIfInBounds i true) (a.put o.dst v) W') hnext
  unfold wpOp
  simp only [ho]
  rw [wanted_in hF (by rw [hI.hsz, hn])]
  split
  ·rename_i hw
   rw [if_pos hw] at hT
   refine .inl ?_
   unfold Oper.wp
   rw [eval_look]
   generalize (execOp (look (slots a)) o).run P W = r at *
   cases r with
   | ok x w' =>
    cases x <;> simp only [Oper.upon, Upon] at hT ⊢
    case value u => exact hT
    case skip => exact hT
    case enter g args =>
     refine Calls.mono hT fun e w'' he => ?_
     obtain ⟨v, rfl, he⟩ := he
     exact he
    case row row args => exact Rows.mono hT fun u w'' he => he
   | halt x w' => simp only [Upon] at hT
  ·rename_i hw
   rw [if_neg hw] at hT
   exact hT
theorem wp_region_told {id : Nat} {a : Act} {w : World} {n : Nat} (Vs : List Spec) (hm : P.follows .mixedOrders = true) (hB : toldB n ops = true) (hn : a.tmps.size = n)
  (ht : ∀ a b c, le a b → le b c → le a c) (hw : le w { w with drawn := w.drawn + 1 })
  (h : toldWalk P ops Q le w a ops.toList Vs []) : (Code.region id ops true).wp P Q a w := by
 have hF := fine_of hB
 refine wp_region_any hm ?_
 have hp := told_parts (P := P) (ops := ops) (Q := Q) (le := le) (a := a) (w0 := w) Vs ops.toList 0 (fun j => by rw [Nat.zero_add, Array.getElem?_toList]) h
 refine told_any hF ht hn (Vs := fun j => Vs.getD j (fun _ _ => False)) (fun i o ho => hp.1 i o (Nat.zero_le _) ho) (fun W f h1 h2 => ?_) _ _ _ _ ?_ ?_
 ·have := hp.2 W f h1
  simp only [Nat.zero_add, Array.length_toList] at this
  rw [← lexIn_all]
  exact this h2
 ·refine ⟨hw, rfl, rfl, by simp, fun _ _ => rfl, fun i hi his => ?_⟩
  simp [his] at hi
 ·refine Nat.le_trans (List.countP_le_length) (by simp)
end
end Go.Proofs.YtpcjbjpofcdjeaaGreatDoor.Td
section
set_option linter.unusedVariables false
namespace Go.Proofs.YtpcjbjpofcdjeaaGreatDoor.Td
open Go
section
variable {P : Program} {ops : Array Oper} {Q : Exit → Act → World → Prop} {le : World → World → Prop}
theorem Known.of {o : Oper} {W : World} {f : Tmp → Value} {env : List (Option Tmp × Spec)} (hE : Known ops o W f env) (j : Nat) (t : Tmp) {c : Value}
  (h1 : env[j]? = some (some t, isV c) := by exact rfl) (h2 : (o.looksAt ops).contains t = true := by kernel_rfl) : f t = c := hE j t _ h1 h2
theorem Elder.of {a : Act} {f : Tmp → Value} (h0 : Elder ops a f) (t : Tmp) {c : Value}
  (h1 : elder ops t = true := by kernel_rfl) (h2 : a.tmps.getD t undef = c := by (conv => lhs; whnf); try exact rfl) : f t = c := (h0 t h1).trans h2
theorem yes_f {f : Tmp → Value} {o : Oper} {A B : Prop} (k : A) (hg : o.guard = none := by exact rfl) : if wantedIn ops f o = true then A else B := yes_of (want_free hg) k
theorem yes_g {f : Tmp → Value} {o : Oper} {g t : Nat} {want : Bool} {A B : Prop} (e : f t = .bool want) (k : A) (hg : o.guard = some (g, want) := by exact rfl) (ht : dstAt ops g = some t := by exact rfl) : if wantedIn ops f o = true then A else B := yes_of (want_yes hg ht e) k
theorem kK {K : Value → World → Prop} {W : World} {c : Value} (hK : ∀ v W', World.grownBy W W' none → isV c W' v → K v W') : K c W := hK _ _ ⟨rfl, rfl, rfl, Nat.le_refl _, fun _ _ _ => rfl⟩ rfl
theorem told_no {w0 : World} {a : Act} {o : Oper} {rest : List Oper} {Vs : List Spec} {env : List (Option Tmp × Spec)} (j : Nat) {g t : Nat} {want : Bool} {v : Value} (h2 : toldWalk P ops Q (fun a b => a.grownBy b none) w0 a rest Vs ((o.dst, isV undef) :: env))
  (hg : o.guard = some (g, want) := by exact rfl) (ht : dstAt ops g = some t := by exact rfl) (he : env[j]? = some (some t, isV v) := by exact rfl) (hc : (o.looksAt ops).contains t = true := by kernel_rfl) (hv : saysNo want v = true := by exact rfl) :
  toldWalk P ops Q (fun a b => a.grownBy b none) w0 a (o :: rest) (isV undef :: Vs) env :=
 told_is (fun W f hW hE h0 K hK => no_of (want_no hg ht (hE j t _ he hc) hv) (hK _ _ ⟨rfl, rfl, rfl, Nat.le_refl _, fun _ _ _ => rfl⟩ rfl)) h2
end
end Go.Proofs.YtpcjbjpofcdjeaaGreatDoor.Td
end
namespace Go.Proofs.YtpcjbjpofcdjeaaGreatDoor.Td
open Go
section
variable {P : Program} {ops : Array Oper} {Q : Exit → Act → World → Prop} {le : World → World → Prop}
theorem told_parts2 {w0 : World} {a : Act} {Q' : Exit → Act → World → Prop} (Vs : List Spec) : ∀ (l : List Oper) (k : Nat), (∀ j, j < l.length → l[j]? = ops[k + j]?) →
  toldWalk P ops Q' le w0 a l (Vs.drop k) (envAt ops (fun j => Vs.getD j (fun _ _ => False)) k) →
  (∀ i o, k ≤ i → i < k + l.length → ops[i]? = some o → ToldOp P ops le w0 a o (Vs.getD i (fun _ _ => False)) (envAt ops (fun j => Vs.getD j (fun _ _ => False)) i) ∧ Stays le (Vs.getD i (fun _ _ => False))) ∧
  (∀ W f, le w0 W → KnownAll W f (envAt ops (fun j => Vs.getD j (fun _ _ => False)) (k + l.length)) → Q' .normal (lexIn f ops.toList a) W) := by
 intro l
 induction l with
 | nil =>
  intro k hl h
  exact ⟨fun i o hk hi ho => by simp at hi; omega, fun W f hW hE => h W f hW hE⟩
 | cons o l ih =>
  intro k hl h
  have ho : ops[k]? = some o := by simpa using (hl 0 (by simp)).symm
  have hd : dstAt ops k = o.dst := by unfold dstAt; rw [ho]; rfl
  cases hV : Vs.drop k with
  | nil => rw [hV] at h; exact h.elim
  | cons V Vs' =>
   rw [hV] at h
   obtain ⟨h1, h2, h3⟩ := h
   have hg : Vs.getD k (fun _ _ => False) = V := by
    rw [List.getD_eq_getElem?_getD]
    have : (Vs.drop k)[0]? = some V := by rw [hV]; rfl
    rw [List.getElem?_drop] at this
    simp only [Nat.add_zero] at this
    rw [this]; rfl
   have hV' : Vs.drop (k + 1) = Vs' := by
    rw [← List.drop_drop, hV]; rfl
   rw [← hV', ← hd, ← hg] at h3
   have h5 := ih (k + 1) (fun j hj => by have := hl (j + 1) (by simp; omega); simpa [Nat.add_assoc, Nat.add_comm 1 j] using this) h3
   refine ⟨fun i o' hk hi ho' => ?_, ?_⟩
   ·rcases Nat.eq_or_lt_of_le hk with e | hlt
    ·subst e
     rw [ho] at ho'
     cases ho'
     rw [hg]
     exact ⟨h1, h2⟩
    ·exact h5.1 i o' hlt (by simp at hi; omega) ho'
   ·have := h5.2
    rw [show k + 1 + l.length = k + (o :: l).length by simp; omega] at this
    exact this
theorem all_lex2 {n : Nat} (hF : Fine n ops) {w0 : World} {a0 : Act} (hn : a0.tmps.size = n) {Vs : Nat → Spec} {listed : Array Bool} {a : Act} {W : World} (hI : Inv ops le w0 a0 Vs listed a W) :
  a = lexAt ops (slots a) a0 ops.size := by
 have ht : a.tmps = (lexAt ops (slots a) a0 ops.size).tmps := by
  apply Array.ext_getElem?
  intro t
  by_cases h : ∃ j, dstAt ops j = some t
  ·obtain ⟨j, hj⟩ := h
   have hlt := hF.fits j t hj
   rw [lex_new (by rw [hn]; exact hlt) hj _ (lt_of_dst hj), slots_get (by rw [hI.hsz, hn]; exact hlt)]
  ·rw [hI.hold t (fun i hi => absurd ⟨i, hi⟩ h), lex_old _ (fun j _ e => h ⟨j, e⟩)]
 have hd : a.defers = (lexAt ops (slots a) a0 ops.size).defers := by rw [hI.hdef, lex_defers]
 generalize lexAt ops (slots a) a0 ops.size = b at *
 obtain ⟨t, d⟩ := a
 obtain ⟨t', d'⟩ := b
 cases ht; cases hd; rfl
def Ends (P : Program) (Q : Exit → Act → World → Prop) (o : Oper) : Exit → Act → World → Prop := fun _ a W => Upon P (fun _ W' => Q .normal a W') ((execOp a.eval o).run P W)
theorem ends_is {o : Oper} {x : Exit} {a : Act} {W : World} : Ends P Q o x a W = Upon P (fun _ W' => Q .normal a W') ((execOp a.eval o).run P W) := rfl
theorem told_tail_any {n m : Nat} (hF : Fine n ops) (ht : ∀ a b c, le a b → le b c → le a c) {w0 : World} {a0 : Act} (hn : a0.tmps.size = n) {Vs : Nat → Spec} (hz : ops.size = m + 1) {oL : Oper} (hL : ops[m]? = some oL) (hLd : oL.dst = none) (hLg : oL.guard = none)
  (hLw : ∀ i, i < m → ∃ e ∈ oL.after, Region.binds .any e = true ∧ e.on = i)
  (hop : ∀ i o, i < m → ops[i]? = some o → ToldOp P ops le w0 a0 o (Vs i) (envAt ops Vs i) ∧ Stays le (Vs i)) (hst : Stays le (Vs m))
  (hend : ∀ W f, le w0 W → KnownAll W f (envAt ops Vs m) → Ends P Q oL .normal (lexAt ops f a0 ops.size) W) :
  ∀ (fuel : Nat) (listed : Array Bool) (a : Act) (W : World), Inv ops le w0 a0 Vs listed a W → listed.getD m true = false → (List.range ops.size).countP (fun i => !listed.getD i true) ≤ fuel → wpAny P .any ops Q fuel listed a W := by
 intro fuel
 induction fuel with
 | zero =>
  intro listed a W hI hmf hc
  exfalso
  have h0 := List.countP_eq_zero.1 (Nat.le_zero.1 hc) m (List.mem_range.2 (by omega))
  rw [hmf] at h0
  simp at h0
 | succ fuel ih =>
  intro listed a W hI hmf hc
  refine ⟨fun hr => ?_, fun i hr => ?_⟩
  ·exfalso
   have := all_listed hF hI.hls hr m (by omega)
   rw [← listed_or (by rw [hI.hls]; omega), hmf] at this
   cases this
  obtain ⟨h0, o, ho, hall⟩ := mem_ready.1 hr
  have hi := (Array.getElem?_eq_some_iff.1 ho).1
  have hd : dstAt ops i = o.dst := by unfold dstAt; rw [ho]; rfl
  by_cases him : i = m
  ·subst him
   rw [hL] at ho
   cases ho
   have hdone : ∀ k, k < i → listed.getD k false = true := fun k hk => by
    obtain ⟨e, he, hb, h2⟩ := hLw k hk
    rw [← h2]; exact hall e he hb
   have hkn : KnownAll W (slots a) (envAt ops Vs i) := fun j d V hj => by
    obtain ⟨k, hk, hdk, hVk⟩ := env_at hj
    have := hI.hnew k (hdone k hk) (by omega)
    rw [hdk, hVk] at this
    exact this
   have hT := hend W (slots a) hI.hle hkn
   rw [← all_lex2 hF hn hI] at hT
   have hfin : ∀ W', Q .normal a W' → wpAny P .any ops Q fuel (listed.setIfInBounds i true) a W' := fun W' hq => by
    have hl : ∀ k, k < ops.size → (listed.setIfInBounds i true).getD k true = true := fun k hk => by
     by_cases e : i = k
     ·subst e; simp [hI.hls, hi]
     ·rw [getD_set_ne true e, listed_or (by rw [hI.hls]; exact hk)]
      exact hdone k (by omega)
    have hr0 : Region.ready .any ops (listed.setIfInBounds i true) = [] := by
     cases hr' : Region.ready .any ops (listed.setIfInBounds i true) with
     | nil => rfl
     | cons k rs =>
      have : k ∈ Region.ready .any ops (listed.setIfInBounds i true) := by rw [hr']; simp
      obtain ⟨h1, o', ho', _⟩ := mem_ready.1 this
      rw [hl k (Array.getElem?_eq_some_iff.1 ho').1] at h1
      cases h1
    cases fuel with
    | zero => exact ⟨hr0, hq⟩
    | succ fuel => exact ⟨fun _ => hq, fun k hk => by rw [hr0] at hk; cases hk⟩
   unfold wpOp
   simp only [hL]
   rw [wanted_in hF (by rw [hI.hsz, hn]), if_pos (want_free hLg)]
   refine .inl ?_
   unfold Ends at hT
   unfold Oper.wp
   generalize (execOp a.eval oL).run P W = r at *
   cases r with
   | ok x w' =>
    cases x <;> simp only [Oper.upon, Upon, hLd, Act.put] at hT ⊢
    case value u => exact hfin _ hT
    case skip => exact hfin _ hT
    case enter g args =>
     refine Calls.mono hT fun e w'' he => ?_
     obtain ⟨v, rfl, he⟩ := he
     exact hfin _ he
    case row row args => exact Rows.mono hT fun u w'' he => hfin _ he
   | halt x w' => simp only [Upon] at hT
  ·have him' : i < m := by omega
   have hkn : Known ops o W (slots a) (envAt ops Vs i) := fun j t V hj hc => by
    obtain ⟨k, hk, hdk, hVk⟩ := env_at hj
    obtain ⟨_, e, he, hb, h2⟩ := hF.looks i o ho t (by simpa using hc) k hdk
    have := hI.hnew k (by rw [← h2]; exact hall e he hb) (by omega)
    rw [hdk, hVk] at this
    exact this
   have hel : Elder ops a0 (slots a) := fun t h => slots_like (hI.hold t fun j hj => by
    unfold elder at h
    rw [List.all_eq_true] at h
    have := h j (List.mem_range.2 (lt_of_dst hj))
    rw [hj] at this
    simp at this)
   have hnext : ∀ v W', le W W' → Vs i W' v → wpAny P .any ops Q fuel (listed.setIfInBounds i true) (a.put o.dst v) W' := fun v W' h1 h2 => by
    rw [← hd]
    refine ih _ _ _ (inv_next hF ht hn (fun j hj => ?_) hI hi h1 h2) (by rw [getD_set_ne true him]; exact hmf) ?_
    ·by_cases e : j = m
     ·subst e; exact hst
     ·exact (hop j _ (by omega) (Array.getElem?_eq_getElem hj)).2
    have := countP_less (p := fun j => !(listed.setIfInBounds i true).getD j true) (q := fun j => !listed.getD j true) (i := i) (List.range ops.size) (fun x _ hx => by
     by_cases e : i = x
     ·subst e; simp [hI.hls, hi] at hx
     ·rw [getD_set_ne true e] at hx; exact hx) (List.mem_range.2 hi) (by simp [hI.hls, hi]) (by rw [h0]; rfl)
    omega
   have hT := (hop i o him' ho).1 W (slots a) hI.hle hkn hel (fun v W' => wpAny P .any ops Q fuel (listed.setIfInBounds i true) (a.put o.dst v) W') hnext
   unfold wpOp
   simp only [ho]
   rw [wanted_in hF (by rw [hI.hsz, hn])]
   split
   ·rename_i hw
    rw [if_pos hw] at hT
    refine .inl ?_
    unfold Oper.wp
    rw [eval_look]
    generalize (execOp (look (slots a)) o).run P W = r at *
    cases r with
    | ok x w' =>
     cases x <;> simp only [Oper.upon, Upon] at hT ⊢
     case value u => exact hT
     case skip => exact hT
     case enter g args =>
      refine Calls.mono hT fun e w'' he => ?_
      obtain ⟨v, rfl, he⟩ := he
      exact he
     case row row args => exact Rows.mono hT fun u w'' he => he
    | halt x w' => simp only [Upon] at hT
   ·rename_i hw
    rw [if_neg hw] at hT
    exact hT
theorem wp_region_told_tail {id : Nat} {a : Act} {w : World} {n : Nat} (m : Nat) (oL : Oper) (Vs : List Spec) (hm : P.follows .mixedOrders = true) (hB : toldB n ops = true) (hn : a.tmps.size = n)
  (hz : ops.size = m + 1) (hL : ops[m]? = some oL) (hLd : oL.dst = none) (hLg : oL.guard = none) (hLw : ((List.range m).all fun i => oL.after.any fun e => Region.binds .any e && e.on == i) = true) (hlen : Vs.length = m)
  (ht : ∀ a b c, le a b → le b c → le a c) (hw : le w { w with drawn := w.drawn + 1 })
  (h : toldWalk P ops (Ends P Q oL) le w a (ops.toList.take m) Vs []) : (Code.region id ops true).wp P Q a w := by
 have hF := fine_of hB
 refine wp_region_any hm ?_
 have hlm : (ops.toList.take m).length = m := by rw [List.length_take, Array.length_toList]; omega
 have hp := told_parts2 (P := P) (ops := ops) (Q' := Ends P Q oL) (le := le) (a := a) (w0 := w) Vs (ops.toList.take m) 0 (fun j hj => by rw [Nat.zero_add, List.getElem?_take, if_pos (by omega), Array.getElem?_toList]) h
 rw [hlm] at hp
 have hLw' : ∀ i, i < m → ∃ e ∈ oL.after, Region.binds .any e = true ∧ e.on = i := fun i hi => by
  rw [List.all_eq_true] at hLw
  obtain ⟨e, he, hb⟩ := Array.any_eq_true'.1 (hLw i (List.mem_range.2 hi))
  simp only [Bool.and_eq_true, beq_iff_eq] at hb
  exact ⟨e, he, hb.1, hb.2⟩
 refine told_tail_any hF ht hn (Vs := fun j => Vs.getD j (fun _ _ => False)) hz hL hLd hLg hLw' (fun i o hi ho => hp.1 i o (Nat.zero_le _) (by omega) ho) (fun W W' v _ h => ?_) (fun W f h1 h2 => ?_) _ _ _ _ ?_ ?_ ?_
 ·rw [List.getD_eq_getElem?_getD, List.getElem?_eq_none (by omega)] at h
  exact h.elim
 ·have := hp.2 W f h1 (by rw [Nat.zero_add]; exact h2)
  rw [← lexIn_all]
  exact this
 ·refine ⟨hw, rfl, rfl, by simp, fun _ _ => rfl, fun i hi his => ?_⟩
  simp [his] at hi
 ·simp [hz]
 ·refine Nat.le_trans (List.countP_le_length) (by simp)
end
end Go.Proofs.YtpcjbjpofcdjeaaGreatDoor.Td
namespace Go.Proofs.YtpcjbjpofcdjeaaGreatDoor.Td
open Go
section
variable {P : Program} {ops : Array Oper} {Q : Exit → Act → World → Prop} {le : World → World → Prop}
def firsts (m k : Nat) : Array Bool := (List.replicate m true ++ List.replicate k false).toArray
theorem firsts_is {listed : Array Bool} {m : Nat} (hs : listed.size = ops.size) (hm : m ≤ ops.size) (h1 : ∀ i, i < m → listed.getD i false = true) (h2 : ∀ t, m ≤ t → t < ops.size → listed.getD t true = false) : listed = firsts m (ops.size - m) := by
 apply Array.ext
 ·rw [hs]; simp [firsts]; omega
 ·intro i hi hi2
  by_cases h : i < m
  ·have := h1 i h
   simp [hi] at this
   rw [this]; simp [firsts, h]
  ·have := h2 i (by omega) (by omega)
   simp [hi] at this
   rw [this]
   simp [firsts, List.getElem_append_right (show (List.replicate m true).length ≤ i by simp; omega)]
theorem lexIn_take (f : Tmp → Value) (a : Act) (m : Nat) (hm : m ≤ ops.size) : lexIn f (ops.toList.take m) a = lexAt ops f a m := by
 have key : ∀ (l : List Oper) (k : Nat) (a : Act), (∀ j, j < l.length → l[j]? = ops[k + j]?) → lexIn f l (lexAt ops f a k) = lexAt ops f a (k + l.length) := by
  intro l
  induction l with
  | nil => intro k a _; rfl
  | cons o l ih =>
   intro k a hl
   have ho : ops[k]? = some o := by simpa using (hl 0 (by simp)).symm
   have hd : dstAt ops k = o.dst := by unfold dstAt; rw [ho]; rfl
   have e : lexIn f (o :: l) (lexAt ops f a k) = lexIn f l (lexAt ops f a (k + 1)) := by
    rw [lexIn, lexAt, hd]
   rw [e, ih (k + 1) a (fun j hj => by have := hl (j + 1) (by simp; omega); simpa [Nat.add_assoc, Nat.add_comm 1 j] using this)]
   rw [show k + 1 + l.length = k + (o :: l).length by simp; omega]
 have hlm : (ops.toList.take m).length = m := by rw [List.length_take, Array.length_toList]; omega
 have := key (ops.toList.take m) 0 a (fun j hj => by rw [Nat.zero_add, List.getElem?_take, if_pos (by omega), Array.getElem?_toList])
 rw [Nat.zero_add, hlm] at this
 exact this
end
end Go.Proofs.YtpcjbjpofcdjeaaGreatDoor.Td
