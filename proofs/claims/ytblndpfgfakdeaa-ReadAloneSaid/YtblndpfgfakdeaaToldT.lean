/- A region that draws its order and ends in one operation that waits for all others (a store, say): walked once, its end by itself. Plain laws, no program. -/
import Derived.Test.YtblndpfgfakdeaaTold
namespace Go.Proofs.Ytblndpfgfakdeaa.Td
open Go

section
variable {P : Program} {ops : Array Oper} {Q : Exit → Act → World → Prop} {le : World → World → Prop}

theorem told_parts2 {w0 : World} {a : Act} {Q' : Exit → Act → World → Prop} (Vs : List Spec) : ∀ (l : List Oper) (k : Nat), (∀ j, j < l.length → l[j]? = ops[k + j]?) →
    toldWalk P ops Q' le w0 a l (Vs.drop k) (envAt ops (fun j => Vs.getD j (fun _ _ => False)) k) →
    (∀ i o, k ≤ i → i < k + l.length → ops[i]? = some o → ToldOp P ops le w0 a o (Vs.getD i (fun _ _ => False)) (envAt ops (fun j => Vs.getD j (fun _ _ => False)) i) ∧ Stays le (Vs.getD i (fun _ _ => False))) ∧
    (∀ W f, le w0 W → KnownAll W f (envAt ops (fun j => Vs.getD j (fun _ _ => False)) (k + l.length)) → Q' .normal (lexIn f ops.toList a) W) := by
  intro l
  induction l with
  | nil =>
    intro k hl h
    exact ⟨fun i o hk hi ho => by simp at hi; omega, fun W f hW hE => h W f hW hE⟩
  | cons o l ih =>
    intro k hl h
    have ho : ops[k]? = some o := by simpa using (hl 0 (by simp)).symm
    have hd : dstAt ops k = o.dst := by unfold dstAt; rw [ho]; rfl
    cases hV : Vs.drop k with
    | nil => rw [hV] at h; exact h.elim
    | cons V Vs' =>
      rw [hV] at h
      obtain ⟨h1, h2, h3⟩ := h
      have hg : Vs.getD k (fun _ _ => False) = V := by
        rw [List.getD_eq_getElem?_getD]
        have : (Vs.drop k)[0]? = some V := by rw [hV]; rfl
        rw [List.getElem?_drop] at this
        simp only [Nat.add_zero] at this
        rw [this]; rfl
      have hV' : Vs.drop (k + 1) = Vs' := by
        rw [← List.drop_drop, hV]; rfl
      rw [← hV', ← hd, ← hg] at h3
      have h5 := ih (k + 1) (fun j hj => by have := hl (j + 1) (by simp; omega); simpa [Nat.add_assoc, Nat.add_comm 1 j] using this) h3
      refine ⟨fun i o' hk hi ho' => ?_, ?_⟩
      · rcases Nat.eq_or_lt_of_le hk with e | hlt
        · subst e
          rw [ho] at ho'
          cases ho'
          rw [hg]
          exact ⟨h1, h2⟩
        · exact h5.1 i o' hlt (by simp at hi; omega) ho'
      · have := h5.2
        rw [show k + 1 + l.length = k + (o :: l).length by simp; omega] at this
        exact this

theorem all_lex2 {n : Nat} (hF : Fine n ops) {w0 : World} {a0 : Act} (hn : a0.tmps.size = n) {Vs : Nat → Spec} {listed : Array Bool} {a : Act} {W : World} (hI : Inv ops le w0 a0 Vs listed a W) :
    a = lexAt ops (slots a) a0 ops.size := by
  have ht : a.tmps = (lexAt ops (slots a) a0 ops.size).tmps := by
    apply Array.ext_getElem?
    intro t
    by_cases h : ∃ j, dstAt ops j = some t
    · obtain ⟨j, hj⟩ := h
      have hlt := hF.fits j t hj
      rw [lex_new (by rw [hn]; exact hlt) hj _ (lt_of_dst hj), slots_get (by rw [hI.hsz, hn]; exact hlt)]
    · rw [hI.hold t (fun i hi => absurd ⟨i, hi⟩ h), lex_old _ (fun j _ e => h ⟨j, e⟩)]
  have hd : a.defers = (lexAt ops (slots a) a0 ops.size).defers := by rw [hI.hdef, lex_defers]
  generalize lexAt ops (slots a) a0 ops.size = b at *
  obtain ⟨t, d⟩ := a
  obtain ⟨t', d'⟩ := b
  cases ht; cases hd; rfl

/-- What the last operation comes to, in the frame that the others leave. -/
def Ends (P : Program) (Q : Exit → Act → World → Prop) (o : Oper) : Exit → Act → World → Prop := fun _ a W => Upon P (fun _ W' => Q .normal a W') ((execOp a.eval o).run P W)

theorem ends_is {o : Oper} {x : Exit} {a : Act} {W : World} : Ends P Q o x a W = Upon P (fun _ W' => Q .normal a W') ((execOp a.eval o).run P W) := rfl

theorem told_tail_any {n m : Nat} (hF : Fine n ops) (ht : ∀ a b c, le a b → le b c → le a c) {w0 : World} {a0 : Act} (hn : a0.tmps.size = n) {Vs : Nat → Spec} (hz : ops.size = m + 1) {oL : Oper} (hL : ops[m]? = some oL) (hLd : oL.dst = none) (hLg : oL.guard = none)
    (hLw : ∀ i, i < m → ∃ e ∈ oL.after, Region.binds .any e = true ∧ e.on = i)
    (hop : ∀ i o, i < m → ops[i]? = some o → ToldOp P ops le w0 a0 o (Vs i) (envAt ops Vs i) ∧ Stays le (Vs i)) (hst : Stays le (Vs m))
    (hend : ∀ W f, le w0 W → KnownAll W f (envAt ops Vs m) → Ends P Q oL .normal (lexAt ops f a0 ops.size) W) :
    ∀ (fuel : Nat) (listed : Array Bool) (a : Act) (W : World), Inv ops le w0 a0 Vs listed a W → listed.getD m true = false → (List.range ops.size).countP (fun i => !listed.getD i true) ≤ fuel → wpAny P .any ops Q fuel listed a W := by
  intro fuel
  induction fuel with
  | zero =>
    intro listed a W hI hmf hc
    exfalso
    have h0 := List.countP_eq_zero.1 (Nat.le_zero.1 hc) m (List.mem_range.2 (by omega))
    rw [hmf] at h0
    simp at h0
  | succ fuel ih =>
    intro listed a W hI hmf hc
    refine ⟨fun hr => ?_, fun i hr => ?_⟩
    · exfalso
      have := all_listed hF hI.hls hr m (by omega)
      rw [← listed_or (by rw [hI.hls]; omega), hmf] at this
      cases this
    obtain ⟨h0, o, ho, hall⟩ := mem_ready.1 hr
    have hi := (Array.getElem?_eq_some_iff.1 ho).1
    have hd : dstAt ops i = o.dst := by unfold dstAt; rw [ho]; rfl
    by_cases him : i = m
    · subst him
      rw [hL] at ho
      cases ho
      have hdone : ∀ k, k < i → listed.getD k false = true := fun k hk => by
        obtain ⟨e, he, hb, h2⟩ := hLw k hk
        rw [← h2]; exact hall e he hb
      have hkn : KnownAll W (slots a) (envAt ops Vs i) := fun j d V hj => by
        obtain ⟨k, hk, hdk, hVk⟩ := env_at hj
        have := hI.hnew k (hdone k hk) (by omega)
        rw [hdk, hVk] at this
        exact this
      have hT := hend W (slots a) hI.hle hkn
      rw [← all_lex2 hF hn hI] at hT
      have hfin : ∀ W', Q .normal a W' → wpAny P .any ops Q fuel (listed.setIfInBounds i true) a W' := fun W' hq => by
        have hl : ∀ k, k < ops.size → (listed.setIfInBounds i true).getD k true = true := fun k hk => by
          by_cases e : i = k
          · subst e; simp [hI.hls, hi]
          · rw [getD_set_ne true e, listed_or (by rw [hI.hls]; exact hk)]
            exact hdone k (by omega)
        have hr0 : Region.ready .any ops (listed.setIfInBounds i true) = [] := by
          cases hr' : Region.ready .any ops (listed.setIfInBounds i true) with
          | nil => rfl
          | cons k rs =>
            have : k ∈ Region.ready .any ops (listed.setIfInBounds i true) := by rw [hr']; simp
            obtain ⟨h1, o', ho', _⟩ := mem_ready.1 this
            rw [hl k (Array.getElem?_eq_some_iff.1 ho').1] at h1
            cases h1
        cases fuel with
        | zero => exact ⟨hr0, hq⟩
        | succ fuel => exact ⟨fun _ => hq, fun k hk => by rw [hr0] at hk; cases hk⟩
      unfold wpOp
      simp only [hL]
      rw [wanted_in hF (by rw [hI.hsz, hn]), if_pos (want_free hLg)]
      refine .inl ?_
      unfold Ends at hT
      unfold Oper.wp
      generalize (execOp a.eval oL).run P W = r at *
      cases r with
      | ok x w' =>
        cases x <;> simp only [Oper.upon, Upon, hLd, Act.put] at hT ⊢
        case value u => exact hfin _ hT
        case skip => exact hfin _ hT
        case enter g args =>
          refine Calls.mono hT fun e w'' he => ?_
          obtain ⟨v, rfl, he⟩ := he
          exact hfin _ he
        case row row args => exact Rows.mono hT fun u w'' he => hfin _ he
      | halt x w' => simp only [Upon] at hT
    · have him' : i < m := by omega
      have hkn : Known ops o W (slots a) (envAt ops Vs i) := fun j t V hj hc => by
        obtain ⟨k, hk, hdk, hVk⟩ := env_at hj
        obtain ⟨_, e, he, hb, h2⟩ := hF.looks i o ho t (by simpa using hc) k hdk
        have := hI.hnew k (by rw [← h2]; exact hall e he hb) (by omega)
        rw [hdk, hVk] at this
        exact this
      have hel : Elder ops a0 (slots a) := fun t h => slots_like (hI.hold t fun j hj => by
        unfold elder at h
        rw [List.all_eq_true] at h
        have := h j (List.mem_range.2 (lt_of_dst hj))
        rw [hj] at this
        simp at this)
      have hnext : ∀ v W', le W W' → Vs i W' v → wpAny P .any ops Q fuel (listed.setIfInBounds i true) (a.put o.dst v) W' := fun v W' h1 h2 => by
        rw [← hd]
        refine ih _ _ _ (inv_next hF ht hn (fun j hj => ?_) hI hi h1 h2) (by rw [getD_set_ne true him]; exact hmf) ?_
        · by_cases e : j = m
          · subst e; exact hst
          · exact (hop j _ (by omega) (Array.getElem?_eq_getElem hj)).2
        have := countP_less (p := fun j => !(listed.setIfInBounds i true).getD j true) (q := fun j => !listed.getD j true) (i := i) (List.range ops.size) (fun x _ hx => by
          by_cases e : i = x
          · subst e; simp [hI.hls, hi] at hx
          · rw [getD_set_ne true e] at hx; exact hx) (List.mem_range.2 hi) (by simp [hI.hls, hi]) (by rw [h0]; rfl)
        omega
      have hT := (hop i o him' ho).1 W (slots a) hI.hle hkn hel (fun v W' => wpAny P .any ops Q fuel (listed.setIfInBounds i true) (a.put o.dst v) W') hnext
      unfold wpOp
      simp only [ho]
      rw [wanted_in hF (by rw [hI.hsz, hn])]
      split
      · rename_i hw
        rw [if_pos hw] at hT
        refine .inl ?_
        unfold Oper.wp
        rw [eval_look]
        generalize (execOp (look (slots a)) o).run P W = r at *
        cases r with
        | ok x w' =>
          cases x <;> simp only [Oper.upon, Upon] at hT ⊢
          case value u => exact hT
          case skip => exact hT
          case enter g args =>
            refine Calls.mono hT fun e w'' he => ?_
            obtain ⟨v, rfl, he⟩ := he
            exact he
          case row row args => exact Rows.mono hT fun u w'' he => he
        | halt x w' => simp only [Upon] at hT
      · rename_i hw
        rw [if_neg hw] at hT
        exact hT

/-- The region's operations but the last by wp_region_told's walk; the last, which waits for all, by itself, in the frame that they leave. -/
theorem wp_region_told_tail {id : Nat} {a : Act} {w : World} {n : Nat} (m : Nat) (oL : Oper) (Vs : List Spec) (hm : P.follows .mixedOrders = true) (hB : toldB n ops = true) (hn : a.tmps.size = n)
    (hz : ops.size = m + 1) (hL : ops[m]? = some oL) (hLd : oL.dst = none) (hLg : oL.guard = none) (hLw : ((List.range m).all fun i => oL.after.any fun e => Region.binds .any e && e.on == i) = true) (hlen : Vs.length = m)
    (ht : ∀ a b c, le a b → le b c → le a c) (hw : le w { w with drawn := w.drawn + 1 })
    (h : toldWalk P ops (Ends P Q oL) le w a (ops.toList.take m) Vs []) : (Code.region id ops true).wp P Q a w := by
  have hF := fine_of hB
  refine wp_region_any hm ?_
  have hlm : (ops.toList.take m).length = m := by rw [List.length_take, Array.length_toList]; omega
  have hp := told_parts2 (P := P) (ops := ops) (Q' := Ends P Q oL) (le := le) (a := a) (w0 := w) Vs (ops.toList.take m) 0 (fun j hj => by rw [Nat.zero_add, List.getElem?_take, if_pos (by omega), Array.getElem?_toList]) h
  rw [hlm] at hp
  have hLw' : ∀ i, i < m → ∃ e ∈ oL.after, Region.binds .any e = true ∧ e.on = i := fun i hi => by
    rw [List.all_eq_true] at hLw
    obtain ⟨e, he, hb⟩ := Array.any_eq_true'.1 (hLw i (List.mem_range.2 hi))
    simp only [Bool.and_eq_true, beq_iff_eq] at hb
    exact ⟨e, he, hb.1, hb.2⟩
  refine told_tail_any hF ht hn (Vs := fun j => Vs.getD j (fun _ _ => False)) hz hL hLd hLg hLw' (fun i o hi ho => hp.1 i o (Nat.zero_le _) (by omega) ho) (fun W W' v _ h => ?_) (fun W f h1 h2 => ?_) _ _ _ _ ?_ ?_ ?_
  · rw [List.getD_eq_getElem?_getD, List.getElem?_eq_none (by omega)] at h
    exact h.elim
  · have := hp.2 W f h1 (by rw [Nat.zero_add]; exact h2)
    rw [← lexIn_all]
    exact this
  · refine ⟨hw, rfl, rfl, by simp, fun _ _ => rfl, fun i hi his => ?_⟩
    simp [his] at hi
  · simp [hz]
  · refine Nat.le_trans (List.countP_le_length) (by simp)
end
end Go.Proofs.Ytblndpfgfakdeaa.Td
