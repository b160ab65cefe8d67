/- States that deeds by numbers make; states of a group, apart: they may be, they agree. -/
import Derived.Test.YtblndpfgfakdeaaFtDo
set_option linter.unusedVariables false
namespace Go.Proofs.Ytblndpfgfakdeaa.Dt

/-- A text of one byte. -/
def b1 (j : Int) : ByteArray := ⟨#[UInt8.ofNat j.toNat]⟩
theorem b1_size (j : Int) : (b1 j).size = 1 := rfl
theorem b1_inj {i j : Int} (hi : 0 ≤ i ∧ i < 256) (hj : 0 ≤ j ∧ j < 256) (h : b1 i = b1 j) : i = j := by
  unfold b1 at h
  have h1 : (#[UInt8.ofNat i.toNat] : Array UInt8) = #[UInt8.ofNat j.toNat] := congrArg ByteArray.data h
  have h2 : UInt8.ofNat i.toNat = UInt8.ofNat j.toNat := by simpa using h1
  have h3 := congrArg UInt8.toNat h2
  rw [UInt8.toNat_ofNat', UInt8.toNat_ofNat'] at h3
  omega
/-- An op by numbers. -/
def opN (a b : Int) : Opn := ⟨1 + a % 5, b1 (107 + a / 5 % 3), b1 (97 + b % 5), b - 100⟩
def stepM (s : St) (dev : Int) (o : Opn) : St := if (doS s dev o).2 = 0 then joinS s (doS s dev o).1 else s
theorem stepM_may {s : St} {dev : Int} {o : Opn} (h : MayS s) : MayS (stepM s dev o) := by
  unfold stepM
  split
  · rename_i h1; exact (do_may h h1).2
  · exact h
/-- What was seen behind a deed. -/
theorem stepM_seen {s : St} {dev : Int} {o : Opn} (h : MayS s) {d n : Int} (hh : Has (stepM s dev o).seen d n) : Has s.seen d n ∨ (d = dev ∧ n = lastR dev s.seen 0 + 1) := by
  unfold stepM at hh
  split at hh
  · rename_i h1
    obtain ⟨e, hb, hn, ho, hl⟩ := do_is h1
    rw [e] at hh
    rcases (join_seen h.ss (delta_ss h.ss hb ho) d n).1 hh with k | k
    · exact .inl k
    · rcases (delta_has h.ss hb ho d n).1 k with ⟨f, hf, _, rfl, rfl⟩ | ⟨_, e1, e2⟩
      · exact .inl (h.ss.2.1 f hf)
      · exact .inr ⟨e1, e2⟩
  · exact .inl hh
theorem stepM_more {s : St} {dev : Int} {o : Opn} (h : MayS s) {d n : Int} (hh : Has s.seen d n) : Has (stepM s dev o).seen d n := by
  unfold stepM
  split
  · rename_i h1
    obtain ⟨e, hb, hn, ho, hl⟩ := do_is h1
    rw [e]
    exact (join_seen h.ss (delta_ss h.ss hb ho) d n).2 (.inl hh)
  · exact hh
/-- Which facts there are behind a deed. -/
theorem stepM_facts {s : St} {dev : Int} {o : Opn} (h : MayS s) {f : Fc} (hf : f ∈ (stepM s dev o).facts) : f ∈ s.facts ∨ (f = newF s dev o ∧ ¬ Away o ∧ ¬ Bad dev o ∧ ¬ Over s dev o) := by
  unfold stepM at hf
  split at hf
  · rename_i h1
    obtain ⟨e, hb, hn, ho, hl⟩ := do_is h1
    rw [e] at hf
    rcases (joinF_mem _ _ f).1 hf with k | k
    · exact .inl k.1
    · have k1 := k.1
      unfold delta at k1
      split at k1
      · cases k1
      · rename_i ha
        exact .inr ⟨List.mem_singleton.1 k1, ha, hb, ho⟩
  · exact .inl hf
/-- No number above K was seen. -/
def Low (s : St) (K : Nat) : Prop := ∀ d n, Has s.seen d n → n ≤ (K : Int)
theorem stepM_low {s : St} {dev : Int} {o : Opn} {K : Nat} (h : MayS s) (hl : Low s K) : Low (stepM s dev o) (K + 1) := fun d n hh => by
  rcases stepM_seen h hh with k | ⟨_, k⟩
  · have := hl d n k; omega
  · have := last_le h.1 K hl dev; omega
theorem low_none : Low none_ 0 := fun d n ⟨_, h, _⟩ => by cases h
theorem Low.more {s : St} {K M : Nat} (h : Low s K) (hm : K ≤ M) : Low s M := fun d n hh => by have := h d n hh; omega
theorem low_join {a b : St} {K : Nat} (ha : SS a) (hb : SS b) (h1 : Low a K) (h2 : Low b K) : Low (joinS a b) K := fun d n hh => by
  rcases (join_seen ha hb d n).1 hh with k | k
  · exact h1 d n k
  · exact h2 d n k
/-- What stays low is short. -/
theorem Low.short {s : St} {K : Nat} (h : Low s K) (hs : MayS s) : s.seen.length ≤ 8 * K ∧ s.facts.length ≤ 8 * K := ⟨runs_len hs.1 K h, facts_len hs.ss K h⟩
/-- All keys are among those that ops by numbers have. -/
def Keyed (s : St) : Prop := ∀ f ∈ s.facts, f.key = b1 107 ∨ f.key = b1 108 ∨ f.key = b1 109
theorem newF_key (s : St) (dev : Int) (o : Opn) : (newF s dev o).key = o.key := by unfold newF; split <;> rfl
theorem opN_key {a : Int} (b : Int) : (opN a b).key = b1 107 ∨ (opN a b).key = b1 108 ∨ (opN a b).key = b1 109 := by
  show b1 (107 + a / 5 % 3) = _ ∨ b1 (107 + a / 5 % 3) = _ ∨ b1 (107 + a / 5 % 3) = _
  have h : a / 5 % 3 = 0 ∨ a / 5 % 3 = 1 ∨ a / 5 % 3 = 2 := by omega
  rcases h with h | h | h <;> rw [h]
  · exact .inl rfl
  · exact .inr (.inl rfl)
  · exact .inr (.inr rfl)
theorem stepM_keyed {s : St} {dev a b : Int} (h : MayS s) (hk : Keyed s) : Keyed (stepM s dev (opN a b)) := fun f hf => by
  rcases stepM_facts h hf with k | ⟨rfl, _⟩
  · exact hk f k
  · rw [newF_key]; exact opN_key b
theorem join_keyed {a b : St} (h1 : Keyed a) (h2 : Keyed b) : Keyed (joinS a b) := fun f hf => by
  rcases (joinF_mem a b f).1 hf with h | h
  · exact h1 f h.1
  · exact h2 f h.1

/-! One behind the other. -/
def makeK (ns : List Int) : Nat → St
  | 0 => none_
  | k + 1 => stepM (makeK ns k) (ns.getD (2 * k) 0 / 16 % 4) (opN (ns.getD (2 * k) 0) (ns.getD (2 * k + 1) 0))
theorem makeK_may (ns : List Int) : ∀ k, MayS (makeK ns k)
  | 0 => none_may
  | k + 1 => stepM_may (makeK_may ns k)
theorem makeK_low (ns : List Int) : ∀ k, Low (makeK ns k) k
  | 0 => low_none
  | k + 1 => stepM_low (makeK_may ns k) (makeK_low ns k)
theorem makeK_keyed (ns : List Int) : ∀ k, Keyed (makeK ns k)
  | 0 => fun _ h => (by cases h)
  | k + 1 => stepM_keyed (makeK_may ns k) (makeK_keyed ns k)

/-! Apart: four states of one group. -/
structure Grp where
  s0 : St
  s1 : St
  s2 : St
  s3 : St
def Grp.at_ (g : Grp) (i : Int) : St := if i = 0 then g.s0 else if i = 1 then g.s1 else if i = 2 then g.s2 else g.s3
def Grp.set_ (g : Grp) (i : Int) (s : St) : Grp := if i = 0 then { g with s0 := s } else if i = 1 then { g with s1 := s } else if i = 2 then { g with s2 := s } else { g with s3 := s }
def In4 (i : Int) : Prop := i = 0 ∨ i = 1 ∨ i = 2 ∨ i = 3
theorem in4_mod (x : Int) : In4 (x % 4) := by unfold In4; omega
theorem Grp.at_set {g : Grp} {i j : Int} {s : St} (hi : In4 i) (hj : In4 j) : (g.set_ i s).at_ j = if j = i then s else g.at_ j := by
  rcases hi with rfl | rfl | rfl | rfl <;> rcases hj with rfl | rfl | rfl | rfl <;> rfl
/-- A group: each may be, all agree, each has seen all its own deeds. -/
structure Fine (g : Grp) (K : Nat) : Prop where
  may : ∀ i, In4 i → MayS (g.at_ i)
  low : ∀ i, In4 i → Low (g.at_ i) K
  agree : ∀ i j, In4 i → In4 j → Agree (g.at_ i) (g.at_ j)
  own : ∀ i j n, In4 i → In4 j → Has (g.at_ j).seen i n → n ≤ lastR i (g.at_ i).seen 0
  devs : ∀ i d n, In4 i → Has (g.at_ i).seen d n → In4 d
  keyed : ∀ i, In4 i → Keyed (g.at_ i)
theorem fine_none : Fine ⟨none_, none_, none_, none_⟩ 0 := by
  have h : ∀ i, In4 i → (⟨none_, none_, none_, none_⟩ : Grp).at_ i = none_ := fun i hi => by rcases hi with rfl | rfl | rfl | rfl <;> rfl
  refine ⟨fun i hi => ?_, fun i hi => ?_, fun i j hi hj => ?_, fun i j n hi hj hh => ?_, fun i d n hi hh => ?_, fun i hi => ?_⟩
  · rw [h i hi]; exact none_may
  · rw [h i hi]; exact low_none
  · rw [h i hi]; exact fun _ hf => (by cases hf)
  · rw [h j hj] at hh; obtain ⟨_, k, _⟩ := hh; cases k
  · rw [h i hi] at hh; obtain ⟨_, k, _⟩ := hh; cases k
  · rw [h i hi]; exact fun _ hf => (by cases hf)
theorem last_mono {a b : List Rn} (ha : Dt.May a) (hb : Dt.May b) (dev : Int) (h : ∀ n, Has a dev n → Has b dev n) : lastR dev a 0 ≤ lastR dev b 0 := by
  by_cases h0 : 0 < lastR dev a 0
  · exact Int.not_lt.1 fun hl => last_not hl (h _ (last_has ha h0))
  · have := last_ge hb dev; omega
theorem may_join {a b : St} (ha : MayS a) (hb : MayS b) {K : Nat} (h1 : Low a K) (h2 : Low b K) (hk : K ≤ 50) : MayS (joinS a b) := by
  have h := join_ss ha.ss hb.ss
  refine mayS_of h (join_right (fun f hf => (ha.2.2.1 f hf).1) fun f hf => (hb.2.2.1 f hf).1) ?_
  have := facts_len h K (low_join ha.ss hb.ss h1 h2)
  omega
/-- One joins another one. -/
theorem Fine.join {g : Grp} {K : Nat} (h : Fine g K) (hK : K ≤ 50) {i j : Int} (hi : In4 i) (hj : In4 j) : Fine (g.set_ i (joinS (g.at_ i) (g.at_ j))) K := by
  have mi := h.may i hi
  have mj := h.may j hj
  have hm := may_join mi mj (h.low i hi) (h.low j hj) hK
  have seen := fun d n => join_seen mi.ss mj.ss d n
  refine ⟨fun a ha => ?_, fun a ha => ?_, fun a b ha hb => ?_, fun a b n ha hb hh => ?_, fun a d n ha hh => ?_, fun a ha => ?_⟩
  · rw [g.at_set hi ha]; split
    · exact hm
    · exact h.may a ha
  · rw [g.at_set hi ha]; split
    · exact low_join mi.ss mj.ss (h.low i hi) (h.low j hj)
    · exact h.low a ha
  · rw [g.at_set hi ha, g.at_set hi hb]
    have key : ∀ c, In4 c → Agree (joinS (g.at_ i) (g.at_ j)) (g.at_ c) := fun c hc => agree_join mi.ss mj.ss (h.agree i c hi hc) (h.agree j c hj hc)
    split
    · split
      · exact hm.ss.agree
      · exact key b hb
    · split
      · exact (key a ha).symm
      · exact h.agree a b ha hb
  · rw [g.at_set hi hb] at hh
    have old : ∃ c, In4 c ∧ Has (g.at_ c).seen a n := by
      split at hh
      · rcases (seen a n).1 hh with k | k
        · exact ⟨i, hi, k⟩
        · exact ⟨j, hj, k⟩
      · exact ⟨b, hb, hh⟩
    obtain ⟨c, hc, hcn⟩ := old
    have h1 := h.own a c n ha hc hcn
    rw [g.at_set hi ha]
    split
    · rename_i e
      subst e
      exact Int.le_trans h1 (last_mono mi.1 hm.1 a fun n hn => (seen a n).2 (.inl hn))
    · exact h1
  · rw [g.at_set hi ha] at hh
    split at hh
    · rcases (seen d n).1 hh with k | k
      · exact h.devs i d n hi k
      · exact h.devs j d n hj k
    · exact h.devs a d n ha hh
  · rw [g.at_set hi ha]; split
    · exact join_keyed (h.keyed i hi) (h.keyed j hj)
    · exact h.keyed a ha
/-- One does a deed. -/
theorem Fine.deed {g : Grp} {K : Nat} (h : Fine g K) {i : Int} (hi : In4 i) (a b : Int) : Fine (g.set_ i (stepM (g.at_ i) i (opN a b))) (K + 1) := by
  have mi := h.may i hi
  have hm := stepM_may (dev := i) (o := opN a b) mi
  refine ⟨fun c hc => ?_, fun c hc => ?_, fun c e hc he => ?_, fun c e n hc he hh => ?_, fun c d n hc hh => ?_, fun c hc => ?_⟩
  · rw [g.at_set hi hc]; split
    · exact hm
    · exact h.may c hc
  · rw [g.at_set hi hc]; split
    · exact stepM_low mi (h.low i hi)
    · exact (h.low c hc).more (Nat.le_succ _)
  · rw [g.at_set hi hc, g.at_set hi he]
    have key : ∀ c, In4 c → Agree (stepM (g.at_ i) i (opN a b)) (g.at_ c) := fun c hc f hf f2 hf2 e1 e2 => by
      rcases stepM_facts mi hf with k | ⟨rfl, _⟩
      · exact h.agree i c hi hc f k f2 hf2 e1 e2
      · exfalso
        have hs := (h.may c hc).ss.2.1 f2 hf2
        rw [(newF_dot _ _ _).1] at e1
        rw [(newF_dot _ _ _).2] at e2
        rw [← e1, ← e2] at hs
        have := h.own i c _ hi hc hs
        omega
    split
    · split
      · exact hm.ss.agree
      · exact key e he
    · split
      · exact (key c hc).symm
      · exact h.agree c e hc he
  · rw [g.at_set hi he] at hh
    have old : (∃ q, In4 q ∧ Has (g.at_ q).seen c n) ∨ (c = i ∧ Has (stepM (g.at_ i) i (opN a b)).seen c n) := by
      split at hh
      · rcases stepM_seen mi hh with k | k
        · exact .inl ⟨i, hi, k⟩
        · exact .inr ⟨k.1, hh⟩
      · exact .inl ⟨e, he, hh⟩
    rw [g.at_set hi hc]
    rcases old with ⟨q, hq, k⟩ | ⟨rfl, k⟩
    · have h1 := h.own c q n hc hq k
      split
      · rename_i e
        subst e
        exact Int.le_trans h1 (last_mono mi.1 hm.1 c fun n hn => stepM_more mi hn)
      · exact h1
    · rw [if_pos rfl]
      exact Int.not_lt.1 fun hl => last_not hl k
  · rw [g.at_set hi hc] at hh
    split at hh
    · rcases stepM_seen mi hh with k | ⟨e, _⟩
      · exact h.devs i d n hi k
      · rw [e]; exact hi
    · exact h.devs c d n hc hh
  · rw [g.at_set hi hc]; split
    · exact stepM_keyed mi (h.keyed i hi)
    · exact h.keyed c hc
def apartStep (g : Grp) (x y z : Int) : Grp := if 160 ≤ x then g.set_ (x % 4) (joinS (g.at_ (x % 4)) (g.at_ (y % 4))) else g.set_ (x % 4) (stepM (g.at_ (x % 4)) (x % 4) (opN y z))
def apartK (ns : List Int) : Nat → Grp
  | 0 => ⟨none_, none_, none_, none_⟩
  | k + 1 => apartStep (apartK ns k) (ns.getD (3 * k) 0) (ns.getD (3 * k + 1) 0) (ns.getD (3 * k + 2) 0)
theorem Fine.more {g : Grp} {K M : Nat} (h : Fine g K) (hm : K ≤ M) : Fine g M := ⟨h.may, fun i hi => (h.low i hi).more hm, h.agree, h.own, h.devs, h.keyed⟩
theorem apartK_fine (ns : List Int) : ∀ k, k ≤ 40 → Fine (apartK ns k) k
  | 0, _ => fine_none
  | k + 1, hk => by
    have ih := apartK_fine ns k (by omega)
    rw [apartK]
    unfold apartStep
    split
    · exact (ih.join (by omega) (in4_mod _) (in4_mod _)).more (Nat.le_succ _)
    · exact ih.deed (in4_mod _) _ _
end Go.Proofs.Ytblndpfgfakdeaa.Dt
