/- wp_region_told_list where the plain tail writes a slot that the head reads (runs = append(runs, ..)): the head's looks alone are held against the head's writes. Plain laws, no program. A region that draws its order, as wp_region_told_list; some of its operations lay new blocks, which are told apart. Plain laws, no program. Written by gen_toldp.py. -/
import Derived.Test.YtpcjbjpofcdjeaaGreatDoorTdAq
namespace Go.Proofs.YtpcjbjpofcdjeaaGreatDoor.Td.Tm
open Go
section
variable {P : Program} {ops : Array Oper} {Q : Exit → Act → World → Prop} {le : World → World → Prop}
def toldB (n m : Nat) (ops : Array Oper) : Bool :=
 Region.noSelect ops && (List.range ops.size).all fun i =>
  match ops[i]? with
  | none => true
  | some o =>
   (o.after.all fun e => !Region.binds .any e || Nat.blt e.on i) &&
   (match o.dst with
    | none => true
    | some d => Nat.blt d n && (List.range ops.size).all fun j => j == i || !(dstAt ops j == some d)) &&
   (o.looksAt ops).all fun t => (List.range m).all fun j => !(dstAt ops j == some t) || (Nat.blt j i && waits o j)
structure Fine (n m : Nat) (ops : Array Oper) : Prop where
 sel : ∀ (j : Nat) (o : Oper) cs b, ops[j]? = some o → o.op ≠ .select cs b
 back : ∀ i o, ops[i]? = some o → ∀ e ∈ o.after, Region.binds .any e = true → e.on < i
 fits : ∀ i d, dstAt ops i = some d → d < n
 once : ∀ i j d, dstAt ops i = some d → dstAt ops j = some d → j = i
 looks : ∀ i o, ops[i]? = some o → ∀ t ∈ o.looksAt ops, ∀ j, j < m → dstAt ops j = some t → j < i ∧ ∃ e ∈ o.after, Region.binds .any e = true ∧ e.on = j
theorem fine_of {n m : Nat} {ops : Array Oper} (h : toldB n m ops = true) : Fine n m ops := by
 unfold toldB at h
 rw [Bool.and_eq_true, List.all_eq_true] at h
 obtain ⟨hs, h⟩ := h
 have at_ : ∀ i o, ops[i]? = some o → _ := fun i o ho => by
  have := h i (List.mem_range.2 (Array.getElem?_eq_some_iff.1 ho).1)
  rw [ho] at this
  simp only [Bool.and_eq_true] at this
  exact this
 have dst_ : ∀ i d, dstAt ops i = some d → ∃ o, ops[i]? = some o ∧ o.dst = some d := fun i d hd => by
  unfold dstAt at hd
  cases ho : ops[i]? with
  | none => rw [ho] at hd; cases hd
  | some o => rw [ho] at hd; exact ⟨o, rfl, hd⟩
 refine ⟨Region.noSelect_spec hs, ?_, ?_, ?_, ?_⟩
 ·intro i o ho e he hb
  have := (at_ i o ho).1.1
  rw [Array.all_eq_true_iff_forall_mem] at this
  have := this e he
  rw [hb] at this
  simpa using this
 ·intro i d hd
  obtain ⟨o, ho, hd'⟩ := dst_ i d hd
  have := (at_ i o ho).1.2
  rw [hd'] at this
  simp only [Bool.and_eq_true] at this
  simpa using this.1
 ·intro i j d hi hj
  obtain ⟨o, ho, hd'⟩ := dst_ i d hi
  have := (at_ i o ho).1.2
  rw [hd'] at this
  simp only [Bool.and_eq_true, List.all_eq_true] at this
  have := this.2 j (List.mem_range.2 (lt_of_dst hj))
  rw [hj] at this
  simpa using this
 ·intro i o ho t ht j hjm hj
  have := (at_ i o ho).2
  rw [List.all_eq_true] at this
  have := this t ht
  rw [List.all_eq_true] at this
  have := this j (List.mem_range.2 hjm)
  rw [hj] at this
  simp only [beq_self_eq_true, Bool.not_true, Bool.false_or, Bool.and_eq_true] at this
  refine ⟨by simpa using this.1, ?_⟩
  have hw := this.2
  unfold waits at hw
  obtain ⟨e, he, hb⟩ := Array.any_eq_true'.1 hw
  simp only [Bool.and_eq_true, beq_iff_eq] at hb
  exact ⟨e, he, hb.1, hb.2⟩
theorem wanted_in {a : Act} {n m : Nat} (hF : Fine n m ops) (hn : a.tmps.size = n) (o : Oper) : Region.wanted o (yielded ops a.tmps) = wantedIn ops (slots a) o := by
 unfold Region.wanted wantedIn
 cases o.guard with
 | none => rfl
 | some gw =>
  obtain ⟨g, want⟩ := gw
  have hy : yielded ops a.tmps g = match (dstAt ops g).bind (fun t => a.tmps[t]?) with | some (Value.bool b) => some b | _ => none := rfl
  simp only [hy]
  cases ht : dstAt ops g with
  | none => rfl
  | some t =>
   simp only [Option.bind_some]
   rw [slots_get (by rw [hn]; exact hF.fits g t ht)]
   cases slots a t <;> rfl
theorem all_listed {n m : Nat} (hF : Fine n m ops) {listed : Array Bool} (hs : listed.size = ops.size) (hr : Region.ready .any ops listed = []) : ∀ i, i < ops.size → listed.getD i false = true := by
 intro i
 induction i using Nat.strongRecOn with
 | ind i ih =>
  intro hi
  cases hb : listed.getD i false with
  | true => rfl
  | false =>
   exfalso
   obtain ⟨o, ho⟩ : ∃ o, ops[i]? = some o := ⟨_, Array.getElem?_eq_getElem hi⟩
   have : i ∈ Region.ready .any ops listed := mem_ready.2 ⟨by rw [listed_or (by omega), hb], o, ho, fun e he hbd => ih e.on (hF.back i o ho e he hbd) (by have := hF.back i o ho e he hbd; omega)⟩
   rw [hr] at this
   cases this
theorem inv_next {n m : Nat} (hF : Fine n m ops) (ht : ∀ a b c, le a b → le b c → le a c) {w0 : World} {a0 : Act} (hn : a0.tmps.size = n) {Vs : Nat → Spec} (hst : ∀ i, i < ops.size → Stays le (Vs i)) {listed : Array Bool} {a : Act} {W W' : World} (hI : Inv ops le w0 a0 Vs listed a W)
  {i : Nat} (hi : i < ops.size) {v : Value} (hle : le W W') (hV : Vs i W' v) : Inv ops le w0 a0 Vs (listed.setIfInBounds i true) (a.put (dstAt ops i) v) W' := by
 have hset : (listed.setIfInBounds i true).getD i true = true := by simp [hI.hls, hi]
 refine ⟨ht _ _ _ hI.hle hle, by rw [put_defers_, hI.hdef], by rw [put_size, hI.hsz], by simp [hI.hls], fun t h => ?_, fun j hj hjs => ?_⟩
 ·have hne : dstAt ops i ≠ some t := fun e => by rw [h i e] at hset; cases hset
  rw [put_far hne]
  refine hI.hold t fun j hj => ?_
  have hji : i ≠ j := fun e => hne (e ▸ hj)
  have := h j hj
  rw [getD_set_ne true hji] at this
  exact this
 ·by_cases e : j = i
  ·subst e
   cases hd : dstAt ops j with
   | none => exact ⟨v, hV⟩
   | some d =>
    simp only []
    rw [slots_of (put_at (by rw [hI.hsz, hn]; exact hF.fits j d hd))]
    exact hV
  ·rw [getD_set_ne false (Ne.symm e)] at hj
   have h1 := hI.hnew j hj hjs
   cases hd : dstAt ops j with
   | none =>
    rw [hd] at h1
    obtain ⟨v, h1⟩ := h1
    exact ⟨v, hst j hjs _ _ _ hle h1⟩
   | some d =>
    rw [hd] at h1
    simp only []
    have : slots (a.put (dstAt ops i) v) d = slots a d := slots_like (put_far (fun e' => e (hF.once i j d e' hd)))
    rw [this]
    exact hst j hjs _ _ _ hle h1
def elder (ops : Array Oper) (m : Nat) (t : Tmp) : Bool := (List.range m).all fun j => !(dstAt ops j == some t)
def Elder (ops : Array Oper) (m : Nat) (a : Act) (f : Tmp → Value) : Prop := ∀ t, elder ops m t = true → f t = a.tmps.getD t undef
theorem Elder.of {m : Nat} {a : Act} {f : Tmp → Value} (h0 : Elder ops m a f) (t : Tmp) {c : Value}
  (h1 : elder ops m t = true := by kernel_rfl) (h2 : a.tmps.getD t undef = c := by (conv => lhs; whnf); try exact rfl) : f t = c := (h0 t h1).trans h2
def ToldOp (P : Program) (ops : Array Oper) (m : Nat) (le : World → World → Prop) (w0 : World) (a : Act) (o : Oper) (V : Spec) (env : List (Option Tmp × Spec)) : Prop :=
 ∀ W f, le w0 W → Known ops o W f env → Elder ops m a f → ∀ K : Value → World → Prop, (∀ v W', le W W' → V W' v → K v W') →
  if wantedIn ops f o = true then Upon P K ((execOp (Td.look f) o).run P W) else K undef W
theorem told_list_any {n m : Nat} (hF : Fine n m ops) (ht : ∀ a b c, le a b → le b c → le a c) {w0 : World} {a0 : Act} (hn : a0.tmps.size = n) {Vs : Nat → Spec} (hm : m < ops.size)
  (hsink : Region.sinkB .any ops m = true) (hchain : Region.chainB .any ops m = true) (hseq : Region.seqB .any ops (ops.size - m) m (firsts m (ops.size - m)) = true)
  (hop : ∀ i o, i < m → ops[i]? = some o → ToldOp P ops m le w0 a0 o (Vs i) (envAt ops Vs i) ∧ Stays le (Vs i)) (hst : ∀ i, m ≤ i → Stays le (Vs i))
  (hend : ∀ W f, le w0 W → KnownAll W f (envAt ops Vs m) → wpList P ops Q (ops.toList.drop m) (lexAt ops f a0 m) W) :
  ∀ (f : Nat) (listed : Array Bool) (a : Act) (W : World), Inv ops le w0 a0 Vs listed a W → HeadInv .any ops m listed → (List.range m).countP (fun i => !listed.getD i true) = f → wpAny P .any ops Q (f + (ops.size - m)) listed a W := by
 intro f
 induction f with
 | zero =>
  intro listed a W hI hH hc
  have h1 : ∀ i, i < m → listed.getD i false = true := fun i hi => by
   have h0 := List.countP_eq_zero.1 hc i (List.mem_range.2 hi)
   rw [← listed_or (by rw [hI.hls]; omega)]
   simpa using h0
  have hl := firsts_is hI.hls (Nat.le_of_lt hm) h1 hH.tail
  have hlen : (ops.toList.drop m).length = ops.size - m := by rw [List.length_drop, Array.length_toList]
  have hfr : a = lexAt ops (slots a) a0 m := by
   have ht : a.tmps = (lexAt ops (slots a) a0 m).tmps := by
    apply Array.ext_getElem?
    intro t
    by_cases h : ∃ j, j < m ∧ dstAt ops j = some t
    ·obtain ⟨j, hjm, hj⟩ := h
     have hlt := hF.fits j t hj
     rw [lex_new (by rw [hn]; exact hlt) hj _ hjm, slots_get (by rw [hI.hsz, hn]; exact hlt)]
    ·rw [hI.hold t (fun i hi => hH.tail i (Nat.le_of_not_lt fun hlt => h ⟨i, hlt, hi⟩) (lt_of_dst hi)), lex_old _ (fun j hj e => h ⟨j, hj, e⟩)]
   have hd : a.defers = (lexAt ops (slots a) a0 m).defers := by rw [hI.hdef, lex_defers]
   generalize lexAt ops (slots a) a0 m = b at *
   obtain ⟨t, d⟩ := a
   obtain ⟨t', d'⟩ := b
   cases ht; cases hd; rfl
  have hkn : KnownAll W (slots a) (envAt ops Vs m) := fun j d V hj => by
   obtain ⟨k, hk, hdk, hVk⟩ := env_at hj
   have := hI.hnew k (h1 k hk) (by omega)
   rw [hdk, hVk] at this
   exact this
  have hw := hend W (slots a) hI.hle hkn
  rw [← hfr] at hw
  have := wpAny_of_seq (P := P) (md := .any) (ops := ops) (Q' := Q) (ops.toList.drop m) m listed a W (fun j => by rw [List.getElem?_drop, Array.getElem?_toList]) (by rw [hlen, hl]; exact hseq) hw
  rwa [hlen, ← Nat.zero_add (ops.size - m)] at this
 | succ f ih =>
  intro listed a W hI hH hc
  rw [show f + 1 + (ops.size - m) = (f + (ops.size - m)) + 1 by omega]
  obtain ⟨i0, hi0, hun0⟩ : ∃ i0, i0 < m ∧ listed.getD i0 true = false := by
   have hp : 0 < (List.range m).countP (fun i => !listed.getD i true) := by omega
   obtain ⟨i, hi, h⟩ := List.countP_pos_iff.1 hp
   exact ⟨i, List.mem_range.1 hi, by simpa using h⟩
  refine ⟨fun hr => ?_, fun i hr => ?_⟩
  ·exfalso
   have := all_listed hF hI.hls hr i0 (by omega)
   rw [← listed_or (by rw [hI.hls]; omega), hun0] at this
   cases this
  have him : i < m := Nat.lt_of_not_le fun h => tail_waits hsink hchain hm hH _ i0 rfl hi0 hun0 i h hr
  obtain ⟨h0, o, ho, hall⟩ := mem_ready.1 hr
  have hi := (Array.getElem?_eq_some_iff.1 ho).1
  have hd : dstAt ops i = o.dst := by unfold dstAt; rw [ho]; rfl
  have hkn : Known ops o W (slots a) (envAt ops Vs i) := fun j t V hj hc => by
   obtain ⟨k, hk, hdk, hVk⟩ := env_at hj
   obtain ⟨_, e, he, hb, h2⟩ := hF.looks i o ho t (by simpa using hc) k (by omega) hdk
   have := hI.hnew k (by rw [← h2]; exact hall e he hb) (by omega)
   rw [hdk, hVk] at this
   exact this
  have hel : Elder ops m a0 (slots a) := fun t h => slots_like (hI.hold t fun j hj => by
   rcases Nat.lt_or_ge j m with hjm | hjm
   ·unfold elder at h
    rw [List.all_eq_true] at h
    have := h j (List.mem_range.2 hjm)
    rw [hj] at this
    simp at this
   ·exact hH.tail j hjm (lt_of_dst hj))
  have hnext : ∀ v W', le W W' → Vs i W' v → wpAny P .any ops Q (f + (ops.size - m)) (listed.setIfInBounds i true) (a.put o.dst v) W' := fun v W' h1 h2 => by
   rw [← hd]
   refine ih _ _ _ (inv_next hF ht hn (fun j hj => ?_) hI hi h1 h2) (hH.set hr him) ?_
   ·by_cases e : j < m
    ·exact (hop j _ e (Array.getElem?_eq_getElem hj)).2
    ·exact hst j (Nat.le_of_not_lt e)
   have hls := hI.hls
   have hone : ∀ (l : List Nat), l.Nodup → (∀ x ∈ l, x < m) → l.countP (fun j => !listed.getD j true) = l.countP (fun j => !(listed.setIfInBounds i true).getD j true) + (if i ∈ l then 1 else 0) := by
    intro l
    induction l with
    | nil => intro _ _; simp
    | cons x l ihl =>
     intro hnd hlt
     have h3 := ihl (List.nodup_cons.1 hnd).2 (fun y hy => hlt y (by simp [hy]))
     rw [List.countP_cons, List.countP_cons, h3]
     by_cases e : i = x
     ·subst e
      have hni : ¬ i ∈ l := (List.nodup_cons.1 hnd).1
      have hset : (listed.setIfInBounds i true).getD i true = true := by simp [hls, hi]
      rw [hset, h0]
      simp [hni]
     ·rw [getD_set_ne true e]
      have : (i ∈ x :: l) ↔ (i ∈ l) := by simp [e]
      simp only [this]
      omega
   have h4 := hone (List.range m) List.nodup_range (fun x hx => List.mem_range.1 hx)
   rw [if_pos (List.mem_range.2 him)] at h4
   omega
  have hT := (hop i o him ho).1 W (slots a) hI.hle hkn hel (fun v W' => wpAny P .any ops Q (f + (ops.size - m)) (listed.setIfInBounds i true) (a.put o.dst v) W') hnext
  unfold wpOp
  simp only [ho]
  rw [wanted_in hF (by rw [hI.hsz, hn])]
  split
  ·rename_i hw
   rw [if_pos hw] at hT
   refine .inl ?_
   unfold Oper.wp
   rw [eval_look]
   generalize (execOp (Td.look (slots a)) o).run P W = r at *
   cases r with
   | ok x w' =>
    cases x <;> simp only [Oper.upon, Upon] at hT ⊢
    case value u => exact hT
    case skip => exact hT
    case enter g args =>
     refine Calls.mono hT fun e w'' he => ?_
     obtain ⟨v, rfl, he⟩ := he
     exact he
    case row row args => exact Rows.mono hT fun u w'' he => he
   | halt x w' => simp only [Upon] at hT
  ·rename_i hw
   rw [if_neg hw] at hT
   exact hT
def toldHead (P : Program) (ops : Array Oper) (Q : Exit → Act → World → Prop) (le : World → World → Prop) (w0 : World) (a : Act) (m : Nat) : List Oper → List Spec → List (Option Tmp × Spec) → Prop
 | [], _, env => ∀ W f, le w0 W → KnownAll W f env → wpList P ops Q (ops.toList.drop m) (lexIn f (ops.toList.take m) a) W
 | _ :: _, [], _ => False
 | o :: rest, V :: Vs, env => ToldOp P ops m le w0 a o V env ∧ Stays le V ∧ toldHead P ops Q le w0 a m rest Vs ((o.dst, V) :: env)
theorem head_is {w0 : World} {a : Act} {m : Nat} {o : Oper} {rest : List Oper} {Vs : List Spec} {env : List (Option Tmp × Spec)} {c : Value} (h1 : ToldOp P ops m le w0 a o (isV c) env) (h2 : toldHead P ops Q le w0 a m rest Vs ((o.dst, isV c) :: env)) :
  toldHead P ops Q le w0 a m (o :: rest) (isV c :: Vs) env := ⟨h1, stays_is, h2⟩
theorem head_at {w0 : World} {a : Act} {m : Nat} {o : Oper} {rest : List Oper} {V : Spec} {Vs : List Spec} {env : List (Option Tmp × Spec)} (hs : Stays le V) (h1 : ToldOp P ops m le w0 a o V env) (h2 : toldHead P ops Q le w0 a m rest Vs ((o.dst, V) :: env)) :
  toldHead P ops Q le w0 a m (o :: rest) (V :: Vs) env := ⟨h1, hs, h2⟩
theorem head_parts {w0 : World} {a : Act} {m : Nat} (Vs : List Spec) : ∀ (l : List Oper) (k : Nat), (∀ j, j < l.length → l[j]? = ops[k + j]?) →
  toldHead P ops Q le w0 a m l (Vs.drop k) (envAt ops (fun j => Vs.getD j (fun _ _ => False)) k) →
  (∀ i o, k ≤ i → i < k + l.length → ops[i]? = some o → ToldOp P ops m le w0 a o (Vs.getD i (fun _ _ => False)) (envAt ops (fun j => Vs.getD j (fun _ _ => False)) i) ∧ Stays le (Vs.getD i (fun _ _ => False))) ∧
  (∀ W f, le w0 W → KnownAll W f (envAt ops (fun j => Vs.getD j (fun _ _ => False)) (k + l.length)) → wpList P ops Q (ops.toList.drop m) (lexIn f (ops.toList.take m) a) W) := by
 intro l
 induction l with
 | nil =>
  intro k hl h
  exact ⟨fun i o hk hi ho => by simp at hi; omega, fun W f hW hE => h W f hW hE⟩
 | cons o l ih =>
  intro k hl h
  have ho : ops[k]? = some o := by simpa using (hl 0 (by simp)).symm
  have hd : dstAt ops k = o.dst := by unfold dstAt; rw [ho]; rfl
  cases hV : Vs.drop k with
  | nil => rw [hV] at h; exact h.elim
  | cons V Vs' =>
   rw [hV] at h
   obtain ⟨h1, h2, h3⟩ := h
   have hg : Vs.getD k (fun _ _ => False) = V := by
    rw [List.getD_eq_getElem?_getD]
    have : (Vs.drop k)[0]? = some V := by rw [hV]; rfl
    rw [List.getElem?_drop] at this
    simp only [Nat.add_zero] at this
    rw [this]; rfl
   have hV' : Vs.drop (k + 1) = Vs' := by
    rw [← List.drop_drop, hV]; rfl
   rw [← hV', ← hd, ← hg] at h3
   have h5 := ih (k + 1) (fun j hj => by have := hl (j + 1) (by simp; omega); simpa [Nat.add_assoc, Nat.add_comm 1 j] using this) h3
   refine ⟨fun i o' hk hi ho' => ?_, ?_⟩
   ·rcases Nat.eq_or_lt_of_le hk with e | hlt
    ·subst e
     rw [ho] at ho'
     cases ho'
     rw [hg]
     exact ⟨h1, h2⟩
    ·exact h5.1 i o' hlt (by simp at hi; omega) ho'
   ·have := h5.2
    rw [show k + 1 + l.length = k + (o :: l).length by simp; omega] at this
    exact this
theorem wp_region_told_list {id : Nat} {a : Act} {w : World} {n : Nat} (m : Nat) (Vs : List Spec) (hm : P.follows .mixedOrders = true) (hB : toldB n m ops = true) (hn : a.tmps.size = n)
  (hC : (decide (m < ops.size) && Region.sinkB .any ops m && Region.chainB .any ops m && Region.seqB .any ops (ops.size - m) m (firsts m (ops.size - m))) = true) (hlen : Vs.length = m)
  (ht : ∀ a b c, le a b → le b c → le a c) (hw : le w { w with drawn := w.drawn + 1 })
  (h : toldHead P ops Q le w a m (ops.toList.take m) Vs []) : (Code.region id ops true).wp P Q a w := by
 simp only [Bool.and_eq_true, decide_eq_true_eq] at hC
 obtain ⟨⟨⟨hmz, hsink⟩, hchain⟩, hseq⟩ := hC
 have hF := fine_of hB
 refine wp_region_any hm ?_
 have hlm : (ops.toList.take m).length = m := by rw [List.length_take, Array.length_toList]; omega
 have hp := head_parts (P := P) (ops := ops) (Q := Q) (le := le) (a := a) (w0 := w) (m := m) Vs (ops.toList.take m) 0 (fun j hj => by rw [Nat.zero_add, List.getElem?_take, if_pos (by omega), Array.getElem?_toList]) h
 rw [hlm] at hp
 have key := told_list_any (Q := Q) hF ht hn (Vs := fun j => Vs.getD j (fun _ _ => False)) hmz hsink hchain hseq (fun i o hi ho => hp.1 i o (Nat.zero_le _) (by omega) ho) (fun i hi W W' v _ h => by
  rw [List.getD_eq_getElem?_getD, List.getElem?_eq_none (by omega)] at h
  exact h.elim) (fun W f h1 h2 => by
   have := hp.2 W f h1 (by rw [Nat.zero_add]; exact h2)
   rwa [lexIn_take f a m (Nat.le_of_lt hmz)] at this) m (Array.replicate ops.size false) a _ ⟨hw, rfl, rfl, by simp, fun _ _ => rfl, fun i hi his => by simp [his] at hi⟩ ⟨by simp, (fun j oj hj hl => by rw [getD_replicate_false] at hl; cases hl), (fun t h1 h2 => by simp [h2])⟩ (by
   have : ∀ l : List Nat, (∀ x ∈ l, x < ops.size) → l.countP (fun i => !(Array.replicate ops.size false).getD i true) = l.length := fun l hl => by
    rw [List.countP_eq_length]
    intro x hx
    simp [hl x hx]
   rw [this _ (fun x hx => by have := List.mem_range.1 hx; omega), List.length_range])
 rw [show m + (ops.size - m) = ops.size by omega] at key
 exact key
end
end Go.Proofs.YtpcjbjpofcdjeaaGreatDoor.Td.Tm
namespace Go.Proofs.YtpcjbjpofcdjeaaGreatDoor.Td.Tp
open Go Td
section
variable {P : Program} {ops : Array Oper} {Q : Exit → Act → World → Prop} {le : World → World → Prop}
def Apart (ops : Array Oper) (F : List Nat) (f : Tmp → Value) : Prop := ∀ i j d e, i ∈ F → j ∈ F → i ≠ j → dstAt ops i = some d → dstAt ops j = some e → f d ≠ f e
def Lays (P : Program) (o : Oper) : Prop := o.guard = none ∧ o.dst.isSome ∧ ∀ (f : Tmp → Value) (W : World), ∃ W', (execOp (look f) o).run P W = .ok (.value (.pointer (some ⟨W.heap.size, 0, none⟩))) W' ∧ W.heap.size < W'.heap.size
structure InvF (ops : Array Oper) (F : List Nat) (listed : Array Bool) (a : Act) (W : World) : Prop where
 own : ∀ i, i ∈ F → listed.getD i false = true → ∃ d g, dstAt ops i = some d ∧ slots a d = .pointer (some ⟨g, 0, none⟩) ∧ g < W.heap.size
 apart : ∀ i j d e, i ∈ F → j ∈ F → i ≠ j → listed.getD i false = true → listed.getD j false = true → dstAt ops i = some d → dstAt ops j = some e → slots a d ≠ slots a e
theorem InvF.next {n : Nat} (hF : Fine n ops) {F : List Nat} {listed : Array Bool} {a : Act} {W W' : World} (h : InvF ops F listed a W) (hsz : a.tmps.size = n) {i : Nat} (hi : i < ops.size) {v : Value} (hle : W.heap.size ≤ W'.heap.size)
  (hv : i ∈ F → v = .pointer (some ⟨W.heap.size, 0, none⟩) ∧ W.heap.size < W'.heap.size ∧ ∃ d, dstAt ops i = some d) : InvF ops F (listed.setIfInBounds i true) (a.put (dstAt ops i) v) W' := by
 have far : ∀ j d, j ≠ i → dstAt ops j = some d → slots (a.put (dstAt ops i) v) d = slots a d := fun j d hj hd => slots_like (put_far (fun e => hj (hF.once i j d e hd)))
 have old : ∀ j, j ≠ i → (listed.setIfInBounds i true).getD j false = true → listed.getD j false = true := fun j hj hl => by rwa [getD_set_ne false (Ne.symm hj)] at hl
 have at_ : ∀ d, dstAt ops i = some d → slots (a.put (dstAt ops i) v) d = v := fun d hd => by rw [hd]; exact slots_of (put_at (by rw [hsz]; exact hF.fits i d hd))
 have own : ∀ j, j ∈ F → (listed.setIfInBounds i true).getD j false = true → ∃ d g, dstAt ops j = some d ∧ slots (a.put (dstAt ops i) v) d = .pointer (some ⟨g, 0, none⟩) ∧ g < W'.heap.size ∧ (j ≠ i → g < W.heap.size) ∧ (j = i → g = W.heap.size) := fun j hjF hl => by
  by_cases e : j = i
  ·subst e
   obtain ⟨rfl, h2, d, hd⟩ := hv hjF
   exact ⟨d, W.heap.size, hd, at_ d hd, h2, fun h => absurd rfl h, fun _ => rfl⟩
  ·obtain ⟨d, g, hd, hs, hg⟩ := h.own j hjF (old j e hl)
   exact ⟨d, g, hd, by rw [far j d e hd]; exact hs, by omega, fun _ => hg, fun e2 => absurd e2 e⟩
 refine ⟨fun j hj hl => ?_, fun j k d e hj hk hjk hlj hlk hd he => ?_⟩
 ·obtain ⟨d, g, h1, h2, h3, _, _⟩ := own j hj hl
  exact ⟨d, g, h1, h2, h3⟩
 ·obtain ⟨d', g, hd', hs, _, n1, n2⟩ := own j hj hlj
  obtain ⟨e', g', he', hs', _, m1, m2⟩ := own k hk hlk
  obtain rfl : d' = d := Option.some.inj (hd'.symm.trans hd)
  obtain rfl : e' = e := Option.some.inj (he'.symm.trans he)
  by_cases e1 : j = i
  ·have hki : k ≠ i := fun e2 => hjk (e1.trans e2.symm)
   rw [hs, hs']
   intro e3
   simp only [Value.pointer.injEq, Option.some.injEq, Addr.mk.injEq, and_true] at e3
   have := n2 e1; have := m1 hki; omega
  ·by_cases e2 : k = i
   ·rw [hs, hs']
    intro e3
    simp only [Value.pointer.injEq, Option.some.injEq, Addr.mk.injEq, and_true] at e3
    have := m2 e2; have := n1 e1; omega
   ·rw [far j _ e1 hd, far k _ e2 he]
    exact h.apart j k _ _ hj hk hjk (old j e1 hlj) (old k e2 hlk) hd he
theorem told_list_any {n m : Nat} (hF : Fine n ops) (ht : ∀ a b c, le a b → le b c → le a c) {w0 : World} {a0 : Act} (hn : a0.tmps.size = n) {Vs : Nat → Spec} (hm : m < ops.size)
  (hsink : Region.sinkB .any ops m = true) (hchain : Region.chainB .any ops m = true) (hseq : Region.seqB .any ops (ops.size - m) m (firsts m (ops.size - m)) = true)
  (hop : ∀ i o, i < m → ops[i]? = some o → ToldOp P ops le w0 a0 o (Vs i) (envAt ops Vs i) ∧ Stays le (Vs i)) (hst : ∀ i, m ≤ i → Stays le (Vs i)) {F : List Nat} (hFr : ∀ i o, i ∈ F → ops[i]? = some o → Lays P o) (hFm : ∀ i, i ∈ F → i < m) (hgrow : ∀ a b, le a b → a.heap.size ≤ b.heap.size)
  (hend : ∀ W f, le w0 W → Apart ops F f → KnownAll W f (envAt ops Vs m) → wpList P ops Q (ops.toList.drop m) (lexAt ops f a0 m) W) :
  ∀ (f : Nat) (listed : Array Bool) (a : Act) (W : World), Inv ops le w0 a0 Vs listed a W → InvF ops F listed a W → HeadInv .any ops m listed → (List.range m).countP (fun i => !listed.getD i true) = f → wpAny P .any ops Q (f + (ops.size - m)) listed a W := by
 intro f
 induction f with
 | zero =>
  intro listed a W hI hA hH hc
  have h1 : ∀ i, i < m → listed.getD i false = true := fun i hi => by
   have h0 := List.countP_eq_zero.1 hc i (List.mem_range.2 hi)
   rw [← listed_or (by rw [hI.hls]; omega)]
   simpa using h0
  have hl := firsts_is hI.hls (Nat.le_of_lt hm) h1 hH.tail
  have hlen : (ops.toList.drop m).length = ops.size - m := by rw [List.length_drop, Array.length_toList]
  have hfr : a = lexAt ops (slots a) a0 m := by
   have ht : a.tmps = (lexAt ops (slots a) a0 m).tmps := by
    apply Array.ext_getElem?
    intro t
    by_cases h : ∃ j, j < m ∧ dstAt ops j = some t
    ·obtain ⟨j, hjm, hj⟩ := h
     have hlt := hF.fits j t hj
     rw [lex_new (by rw [hn]; exact hlt) hj _ hjm, slots_get (by rw [hI.hsz, hn]; exact hlt)]
    ·rw [hI.hold t (fun i hi => hH.tail i (Nat.le_of_not_lt fun hlt => h ⟨i, hlt, hi⟩) (lt_of_dst hi)), lex_old _ (fun j hj e => h ⟨j, hj, e⟩)]
   have hd : a.defers = (lexAt ops (slots a) a0 m).defers := by rw [hI.hdef, lex_defers]
   generalize lexAt ops (slots a) a0 m = b at *
   obtain ⟨t, d⟩ := a
   obtain ⟨t', d'⟩ := b
   cases ht; cases hd; rfl
  have hkn : KnownAll W (slots a) (envAt ops Vs m) := fun j d V hj => by
   obtain ⟨k, hk, hdk, hVk⟩ := env_at hj
   have := hI.hnew k (h1 k hk) (by omega)
   rw [hdk, hVk] at this
   exact this
  have hap : Apart ops F (slots a) := fun i j d e hi hj hij hd he => hA.apart i j d e hi hj hij (h1 i (hFm i hi)) (h1 j (hFm j hj)) hd he
  have hw := hend W (slots a) hI.hle hap hkn
  rw [← hfr] at hw
  have := wpAny_of_seq (P := P) (md := .any) (ops := ops) (Q' := Q) (ops.toList.drop m) m listed a W (fun j => by rw [List.getElem?_drop, Array.getElem?_toList]) (by rw [hlen, hl]; exact hseq) hw
  rwa [hlen, ← Nat.zero_add (ops.size - m)] at this
 | succ f ih =>
  intro listed a W hI hA hH hc
  rw [show f + 1 + (ops.size - m) = (f + (ops.size - m)) + 1 by omega]
  obtain ⟨i0, hi0, hun0⟩ : ∃ i0, i0 < m ∧ listed.getD i0 true = false := by
   have hp : 0 < (List.range m).countP (fun i => !listed.getD i true) := by omega
   obtain ⟨i, hi, h⟩ := List.countP_pos_iff.1 hp
   exact ⟨i, List.mem_range.1 hi, by simpa using h⟩
  refine ⟨fun hr => ?_, fun i hr => ?_⟩
  ·exfalso
   have := all_listed hF hI.hls hr i0 (by omega)
   rw [← listed_or (by rw [hI.hls]; omega), hun0] at this
   cases this
  have him : i < m := Nat.lt_of_not_le fun h => tail_waits hsink hchain hm hH _ i0 rfl hi0 hun0 i h hr
  obtain ⟨h0, o, ho, hall⟩ := mem_ready.1 hr
  have hi := (Array.getElem?_eq_some_iff.1 ho).1
  have hd : dstAt ops i = o.dst := by unfold dstAt; rw [ho]; rfl
  have hkn : Known ops o W (slots a) (envAt ops Vs i) := fun j t V hj hc => by
   obtain ⟨k, hk, hdk, hVk⟩ := env_at hj
   obtain ⟨_, e, he, hb, h2⟩ := hF.looks i o ho t (by simpa using hc) k hdk
   have := hI.hnew k (by rw [← h2]; exact hall e he hb) (by omega)
   rw [hdk, hVk] at this
   exact this
  have hel : Elder ops a0 (slots a) := fun t h => slots_like (hI.hold t fun j hj => by
   unfold elder at h
   rw [List.all_eq_true] at h
   have := h j (List.mem_range.2 (lt_of_dst hj))
   rw [hj] at this
   simp at this)
  have hnext : ∀ v W', le W W' → Vs i W' v → (i ∈ F → v = .pointer (some ⟨W.heap.size, 0, none⟩) ∧ W.heap.size < W'.heap.size) → wpAny P .any ops Q (f + (ops.size - m)) (listed.setIfInBounds i true) (a.put o.dst v) W' := fun v W' h1 h2 h9 => by
   rw [← hd]
   refine ih _ _ _ (inv_next hF ht hn (fun j hj => ?_) hI hi h1 h2) (hA.next hF (by rw [hI.hsz, hn]) hi (hgrow _ _ h1) (fun hiF => ⟨(h9 hiF).1, (h9 hiF).2, by
    obtain ⟨_, hds, _⟩ := hFr i o hiF ho
    obtain ⟨d, hd2⟩ := Option.isSome_iff_exists.1 hds
    exact ⟨d, by rw [hd, hd2]⟩⟩)) (hH.set hr him) ?_
   ·by_cases e : j < m
    ·exact (hop j _ e (Array.getElem?_eq_getElem hj)).2
    ·exact hst j (Nat.le_of_not_lt e)
   have hls := hI.hls
   have hone : ∀ (l : List Nat), l.Nodup → (∀ x ∈ l, x < m) → l.countP (fun j => !listed.getD j true) = l.countP (fun j => !(listed.setIfInBounds i true).getD j true) + (if i ∈ l then 1 else 0) := by
    intro l
    induction l with
    | nil => intro _ _; simp
    | cons x l ihl =>
     intro hnd hlt
     have h3 := ihl (List.nodup_cons.1 hnd).2 (fun y hy => hlt y (by simp [hy]))
     rw [List.countP_cons, List.countP_cons, h3]
     by_cases e : i = x
     ·subst e
      have hni : ¬ i ∈ l := (List.nodup_cons.1 hnd).1
      have hset : (listed.setIfInBounds i true).getD i true = true := by simp [hls, hi]
      rw [hset, h0]
      simp [hni]
     ·rw [getD_set_ne true e]
      have : (i ∈ x :: l) ↔ (i ∈ l) := by simp [e]
      simp only [this]
      omega
   have h4 := hone (List.range m) List.nodup_range (fun x hx => List.mem_range.1 hx)
   rw [if_pos (List.mem_range.2 him)] at h4
   omega
  have hT := (hop i o him ho).1 W (slots a) hI.hle hkn hel (fun v W' => (i ∈ F → v = .pointer (some ⟨W.heap.size, 0, none⟩) ∧ W.heap.size < W'.heap.size) → wpAny P .any ops Q (f + (ops.size - m)) (listed.setIfInBounds i true) (a.put o.dst v) W') hnext
  have hlay : i ∈ F → o.guard = none ∧ ∃ W', (execOp (look (slots a)) o).run P W = .ok (.value (.pointer (some ⟨W.heap.size, 0, none⟩))) W' ∧ W.heap.size < W'.heap.size := fun hiF => ⟨(hFr i o hiF ho).1, (hFr i o hiF ho).2.2 (slots a) W⟩
  unfold wpOp
  simp only [ho]
  rw [wanted_in hF (by rw [hI.hsz, hn])]
  split
  ·rename_i hw
   rw [if_pos hw] at hT
   refine .inl ?_
   unfold Oper.wp
   rw [eval_look]
   generalize (execOp (look (slots a)) o).run P W = r at *
   cases r with
   | ok x w' =>
    cases x <;> simp only [Oper.upon, Upon] at hT ⊢
    case value u => exact hT (fun hiF => by
     obtain ⟨_, W2, hr2, h3⟩ := hlay hiF
     injection hr2 with e1 e2
     injection e1 with e1
     subst e1 e2
     exact ⟨rfl, h3⟩)
    case skip => exact hT (fun hiF => by
     obtain ⟨_, W2, hr2, _⟩ := hlay hiF
     injection hr2 with e1 _
     cases e1)
    case enter g args =>
     refine Calls.mono hT fun e w'' he => ?_
     obtain ⟨v, rfl, he⟩ := he
     exact he (fun hiF => by
      obtain ⟨_, W2, hr2, _⟩ := hlay hiF
      injection hr2 with e1 _
      cases e1)
    case row row args => exact Rows.mono hT fun u w'' he => he (fun hiF => by
     obtain ⟨_, W2, hr2, _⟩ := hlay hiF
     injection hr2 with e1 _
     cases e1)
   | halt x w' => simp only [Upon] at hT
  ·rename_i hw
   rw [if_neg hw] at hT
   exact hT (fun hiF => absurd (want_free (hlay hiF).1) hw)
def toldHead (P : Program) (ops : Array Oper) (Q : Exit → Act → World → Prop) (le : World → World → Prop) (w0 : World) (a : Act) (m : Nat) (F : List Nat) : List Oper → List Spec → List (Option Tmp × Spec) → Prop
 | [], _, env => ∀ W f, le w0 W → Apart ops F f → KnownAll W f env → wpList P ops Q (ops.toList.drop m) (lexIn f (ops.toList.take m) a) W
 | _ :: _, [], _ => False
 | o :: rest, V :: Vs, env => ToldOp P ops le w0 a o V env ∧ Stays le V ∧ toldHead P ops Q le w0 a m F rest Vs ((o.dst, V) :: env)
theorem head_is {w0 : World} {a : Act} {m : Nat} {F : List Nat} {o : Oper} {rest : List Oper} {Vs : List Spec} {env : List (Option Tmp × Spec)} {c : Value} (h1 : ToldOp P ops le w0 a o (isV c) env) (h2 : toldHead P ops Q le w0 a m F rest Vs ((o.dst, isV c) :: env)) :
  toldHead P ops Q le w0 a m F (o :: rest) (isV c :: Vs) env := ⟨h1, stays_is, h2⟩
theorem head_at {w0 : World} {a : Act} {m : Nat} {F : List Nat} {o : Oper} {rest : List Oper} {V : Spec} {Vs : List Spec} {env : List (Option Tmp × Spec)} (hs : Stays le V) (h1 : ToldOp P ops le w0 a o V env) (h2 : toldHead P ops Q le w0 a m F rest Vs ((o.dst, V) :: env)) :
  toldHead P ops Q le w0 a m F (o :: rest) (V :: Vs) env := ⟨h1, hs, h2⟩
theorem head_parts {w0 : World} {a : Act} {m : Nat} {F : List Nat} (Vs : List Spec) : ∀ (l : List Oper) (k : Nat), (∀ j, j < l.length → l[j]? = ops[k + j]?) →
  toldHead P ops Q le w0 a m F l (Vs.drop k) (envAt ops (fun j => Vs.getD j (fun _ _ => False)) k) →
  (∀ i o, k ≤ i → i < k + l.length → ops[i]? = some o → ToldOp P ops le w0 a o (Vs.getD i (fun _ _ => False)) (envAt ops (fun j => Vs.getD j (fun _ _ => False)) i) ∧ Stays le (Vs.getD i (fun _ _ => False))) ∧
  (∀ W f, le w0 W → Apart ops F f → KnownAll W f (envAt ops (fun j => Vs.getD j (fun _ _ => False)) (k + l.length)) → wpList P ops Q (ops.toList.drop m) (lexIn f (ops.toList.take m) a) W) := by
 intro l
 induction l with
 | nil =>
  intro k hl h
  exact ⟨fun i o hk hi ho => by simp at hi; omega, fun W f hW hP hE => h W f hW hP hE⟩
 | cons o l ih =>
  intro k hl h
  have ho : ops[k]? = some o := by simpa using (hl 0 (by simp)).symm
  have hd : dstAt ops k = o.dst := by unfold dstAt; rw [ho]; rfl
  cases hV : Vs.drop k with
  | nil => rw [hV] at h; exact h.elim
  | cons V Vs' =>
   rw [hV] at h
   obtain ⟨h1, h2, h3⟩ := h
   have hg : Vs.getD k (fun _ _ => False) = V := by
    rw [List.getD_eq_getElem?_getD]
    have : (Vs.drop k)[0]? = some V := by rw [hV]; rfl
    rw [List.getElem?_drop] at this
    simp only [Nat.add_zero] at this
    rw [this]; rfl
   have hV' : Vs.drop (k + 1) = Vs' := by
    rw [← List.drop_drop, hV]; rfl
   rw [← hV', ← hd, ← hg] at h3
   have h5 := ih (k + 1) (fun j hj => by have := hl (j + 1) (by simp; omega); simpa [Nat.add_assoc, Nat.add_comm 1 j] using this) h3
   refine ⟨fun i o' hk hi ho' => ?_, ?_⟩
   ·rcases Nat.eq_or_lt_of_le hk with e | hlt
    ·subst e
     rw [ho] at ho'
     cases ho'
     rw [hg]
     exact ⟨h1, h2⟩
    ·exact h5.1 i o' hlt (by simp at hi; omega) ho'
   ·have := h5.2
    rw [show k + 1 + l.length = k + (o :: l).length by simp; omega] at this
    exact this
theorem wp_region_told_list {id : Nat} {a : Act} {w : World} {n : Nat} (m : Nat) (F : List Nat) (Vs : List Spec) (hm : P.follows .mixedOrders = true) (hB : toldB n ops = true) (hn : a.tmps.size = n)
  (hC : (decide (m < ops.size) && Region.sinkB .any ops m && Region.chainB .any ops m && Region.seqB .any ops (ops.size - m) m (firsts m (ops.size - m))) = true) (hlen : Vs.length = m) (hFr : ∀ i ∈ F, ∃ o, ops[i]? = some o ∧ Lays P o) (hFm : (F.all fun i => decide (i < m)) = true) (hgrow : ∀ a b, le a b → a.heap.size ≤ b.heap.size)
  (ht : ∀ a b c, le a b → le b c → le a c) (hw : le w { w with drawn := w.drawn + 1 })
  (h : toldHead P ops Q le w a m F (ops.toList.take m) Vs []) : (Code.region id ops true).wp P Q a w := by
 simp only [Bool.and_eq_true, decide_eq_true_eq] at hC
 obtain ⟨⟨⟨hmz, hsink⟩, hchain⟩, hseq⟩ := hC
 have hF := fine_of hB
 refine wp_region_any hm ?_
 have hlm : (ops.toList.take m).length = m := by rw [List.length_take, Array.length_toList]; omega
 have hp := head_parts (P := P) (ops := ops) (Q := Q) (le := le) (a := a) (w0 := w) (m := m) (F := F) Vs (ops.toList.take m) 0 (fun j hj => by rw [Nat.zero_add, List.getElem?_take, if_pos (by omega), Array.getElem?_toList]) h
 rw [hlm] at hp
 have key := told_list_any (Q := Q) hF ht hn (Vs := fun j => Vs.getD j (fun _ _ => False)) hmz hsink hchain hseq (fun i o hi ho => hp.1 i o (Nat.zero_le _) (by omega) ho) (fun i hi W W' v _ h => by
  rw [List.getD_eq_getElem?_getD, List.getElem?_eq_none (by omega)] at h
  exact h.elim) (fun i o hi ho => by
   obtain ⟨o', h1, h2⟩ := hFr i hi
   rw [ho] at h1
   cases h1
   exact h2) (fun i hi => by
   have := List.all_eq_true.1 hFm i hi
   simpa using this) hgrow (fun W f h1 h9 h2 => by
   have := hp.2 W f h1 h9 (by rw [Nat.zero_add]; exact h2)
   rwa [lexIn_take f a m (Nat.le_of_lt hmz)] at this) m (Array.replicate ops.size false) a _ ⟨hw, rfl, rfl, by simp, fun _ _ => rfl, fun i hi his => by simp [his] at hi⟩ ⟨fun i _ hl => (by rw [getD_replicate_false] at hl; cases hl), fun i j d e _ _ _ hl => (by rw [getD_replicate_false] at hl; cases hl)⟩ ⟨by simp, (fun j oj hj hl => by rw [getD_replicate_false] at hl; cases hl), (fun t h1 h2 => by simp [h2])⟩ (by
   have : ∀ l : List Nat, (∀ x ∈ l, x < ops.size) → l.countP (fun i => !(Array.replicate ops.size false).getD i true) = l.length := fun l hl => by
    rw [List.countP_eq_length]
    intro x hx
    simp [hl x hx]
   rw [this _ (fun x hx => by have := List.mem_range.1 hx; omega), List.length_range])
 rw [show m + (ops.size - m) = ops.size by omega] at key
 exact key
end
end Go.Proofs.YtpcjbjpofcdjeaaGreatDoor.Td.Tp
