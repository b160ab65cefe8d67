/- Wraps, pure: tags, the next record of a log, what a wrap opens to, what becomes of who takes a record. -/
import Derived.Test.YtpcjbjpofcdjeaaGreatDoorRoAq
import Derived.Test.YtpcjbjpofcdjeaaGreatDoorKyAq
import Derived.Test.YtpcjbjpofcdjeaaGreatDoorBxBq
set_option linter.unusedVariables false
namespace Go.Proofs.YtpcjbjpofcdjeaaGreatDoor.Wc
open Go Vw Mb Ro
def noB : ByteArray := ⟨#[]⟩
def noTag (r : Rc) : Rc := ⟨r.seq, r.prev, r.kind, r.dev, r.wraps, ⟨#[]⟩⟩
theorem noTag_may {r : Rc} (h : MayR r) : MayR (noTag r) := ⟨⟨h.1.1, h.1.2.1, h.1.2.2.1, h.1.2.2.2.1, h.1.2.2.2.2.1, h.1.2.2.2.2.2.1, .inr rfl⟩, h.2⟩
open Classical in
noncomputable def tagR (key : ByteArray) (r : Rc) : ByteArray := if MayR r then (Hh.macB key (recB (noTag r))).extract 0 16 else ⟨#[]⟩
theorem tagR_yes {key : ByteArray} {r : Rc} (h : MayR r) : tagR key r = (Hh.macB key (recB (noTag r))).extract 0 16 := if_pos h
theorem tagR_no {key : ByteArray} {r : Rc} (h : ¬ MayR r) : tagR key r = ⟨#[]⟩ := if_neg h
theorem tagR_size {key : ByteArray} {r : Rc} (h : MayR r) : (tagR key r).size = 16 := by
 rw [tagR_yes h, ByteArray.size_extract, Hh.macB_size]; rfl
theorem tagR_le (key : ByteArray) (r : Rc) : (tagR key r).size ≤ 16 := by
 by_cases h : MayR r
 ·rw [tagR_size h]; exact Nat.le_refl _
 ·rw [tagR_no h]; exact Nat.zero_le _
theorem tagR_same {key : ByteArray} {a b : Rc} (ha : MayR a) (hb : MayR b) (h : noTag a = noTag b) : tagR key a = tagR key b := by
 rw [tagR_yes ha, tagR_yes hb, h]
def Like (a b : Rc) : Prop := a.seq = b.seq ∧ a.kind = b.kind ∧ a.dev = b.dev
theorem in_like {l : List Rc} {a b : Rc} (h : Like a b) (e d : Int) : inB (l ++ [a]) e d = inB (l ++ [b]) e d := by
 unfold inB
 rw [inL_snoc, inL_snoc]
 unfold goesIn
 rw [h.1, h.2.1, h.2.2]
theorem mems_like {l : List Rc} {a b : Rc} (h : Like a b) (e : Int) : memsB (l ++ [a]) e = memsB (l ++ [b]) e := mems_ext fun d => in_like h e d
def DeedArg (l : List Rc) (kind dev : Int) : Prop := ¬ (kind = 1 ∨ kind = 2) ∨ ¬ (0 ≤ dev ∧ dev < 8) ∨ ¬ ChainR l ∨ (l.length = 0 ∧ ¬ (kind = 1 ∧ dev = 0)) ∨ (kind = 2 ∧ dev = 0)
open Classical in
noncomputable def deedE (l : List Rc) (kind dev : Int) : Int :=
 if DeedArg l kind dev then 1 else if kind = 1 ∧ inB l l.length dev = true then 3 else if kind = 2 ∧ inB l l.length dev = false then 2 else if 40 ≤ l.length then 12 else 0
theorem deed_arg {l : List Rc} {kind dev : Int} (h : DeedArg l kind dev) : deedE l kind dev = 1 := if_pos h
theorem deed_have {l : List Rc} {kind dev : Int} (h : ¬ DeedArg l kind dev) (h1 : kind = 1 ∧ inB l l.length dev = true) : deedE l kind dev = 3 := by
 unfold deedE; rw [if_neg h, if_pos h1]
theorem deed_none {l : List Rc} {kind dev : Int} (h : ¬ DeedArg l kind dev) (h1 : kind = 2 ∧ inB l l.length dev = false) : deedE l kind dev = 2 := by
 unfold deedE; rw [if_neg h, if_neg (fun h2 => by have := h1.1; have := h2.1; omega), if_pos h1]
theorem deed_full {l : List Rc} {kind dev : Int} (h : ¬ DeedArg l kind dev) (h1 : ¬ (kind = 1 ∧ inB l l.length dev = true)) (h2 : ¬ (kind = 2 ∧ inB l l.length dev = false)) (h3 : 40 ≤ l.length) : deedE l kind dev = 12 := by
 unfold deedE; rw [if_neg h, if_neg h1, if_neg h2, if_pos h3]
theorem deed_ok {l : List Rc} {kind dev : Int} (h : ¬ DeedArg l kind dev) (h1 : ¬ (kind = 1 ∧ inB l l.length dev = true)) (h2 : ¬ (kind = 2 ∧ inB l l.length dev = false)) (h3 : ¬ 40 ≤ l.length) : deedE l kind dev = 0 := by
 unfold deedE; rw [if_neg h, if_neg h1, if_neg h2, if_neg h3]
theorem deed_yes {l : List Rc} {kind dev : Int} (h : deedE l kind dev = 0) : ¬ DeedArg l kind dev ∧ ¬ (kind = 1 ∧ inB l l.length dev = true) ∧ ¬ (kind = 2 ∧ inB l l.length dev = false) ∧ ¬ 40 ≤ l.length := by
 by_cases h0 : DeedArg l kind dev
 ·rw [deed_arg h0] at h; cases h
 ·by_cases h1 : kind = 1 ∧ inB l l.length dev = true
  ·rw [deed_have h0 h1] at h; cases h
  ·by_cases h2 : kind = 2 ∧ inB l l.length dev = false
   ·rw [deed_none h0 h2] at h; cases h
   ·by_cases h3 : 40 ≤ l.length
    ·rw [deed_full h0 h1 h2 h3] at h; cases h
    ·exact ⟨h0, h1, h2, h3⟩
theorem deed_range (l : List Rc) (kind dev : Int) : 0 ≤ deedE l kind dev ∧ deedE l kind dev ≤ 12 := by
 by_cases h0 : DeedArg l kind dev
 ·rw [deed_arg h0]; decide
 ·by_cases h1 : kind = 1 ∧ inB l l.length dev = true
  ·rw [deed_have h0 h1]; decide
  ·by_cases h2 : kind = 2 ∧ inB l l.length dev = false
   ·rw [deed_none h0 h2]; decide
   ·by_cases h3 : 40 ≤ l.length
    ·rw [deed_full h0 h1 h2 h3]; decide
    ·rw [deed_ok h0 h1 h2 h3]; decide
noncomputable def sealR (secret master : ByteArray) (r : Rc) (d : Int) : Mb.Wp := ⟨d, Bx.sealB (Ky.wrapB (Ky.ownB master d)) (Ky.nonceB r.seq) (Mb.headB r) (Ky.epochB secret r.seq)⟩
noncomputable def wrapsR (secret master : ByteArray) (r : Rc) (ds : List Int) : List Mb.Wp := ds.map (sealR secret master r)
def withW (r : Rc) (ws : List Mb.Wp) : Rc := ⟨r.seq, r.prev, r.kind, r.dev, ws, r.tag⟩
def withT (r : Rc) (t : ByteArray) : Rc := ⟨r.seq, r.prev, r.kind, r.dev, r.wraps, t⟩
noncomputable def hung (l : List Rc) (kind dev : Int) : Rc := bare l kind dev ⟨#[]⟩
noncomputable def memsN (l : List Rc) (kind dev : Int) : List Int := memsB (l ++ [hung l kind dev]) ((l.length : Int) + 1)
noncomputable def sealedR (secret master : ByteArray) (l : List Rc) (kind dev : Int) : Rc := withW (hung l kind dev) (wrapsR secret master (hung l kind dev) (memsN l kind dev))
noncomputable def nextT (secret master : ByteArray) (l : List Rc) (kind dev : Int) : ByteArray := if l.length = 0 then ⟨#[]⟩ else tagR (Ky.epochB secret l.length) (sealedR secret master l kind dev)
noncomputable def nextR (secret master : ByteArray) (l : List Rc) (kind dev : Int) : Rc := withT (sealedR secret master l kind dev) (nextT secret master l kind dev)
def zeroR : Rc := ⟨0, ⟨#[]⟩, 0, 0, [], ⟨#[]⟩⟩
noncomputable def madeR (secret master : ByteArray) (l : List Rc) (kind dev : Int) : Rc := if deedE l kind dev = 0 then nextR secret master l kind dev else zeroR
theorem like_next (s m : ByteArray) (l : List Rc) (kind dev : Int) : Like (nextR s m l kind dev) (hung l kind dev) := ⟨rfl, rfl, rfl⟩
theorem hung_may {l : List Rc} {kind dev : Int} (h : deedE l kind dev = 0) : MayR (hung l kind dev) := by
 obtain ⟨h0, _, _, h3⟩ := deed_yes h
 unfold DeedArg at h0
 exact bare_may (by omega) (by omega) (by omega) (.inr rfl)
theorem epoch_size (s : ByteArray) (n : Int) : (Ky.epochB s n).size = 32 := Ky.derive_size _ _ _ _
theorem sealR_box (s m : ByteArray) (r : Rc) (d : Int) : (sealR s m r d).box = Bx.sealB (Ky.wrapB (Ky.ownB m d)) (Ky.nonceB r.seq) (Mb.headB r) (Ky.epochB s r.seq) := by simp only [sealR]
theorem sealR_eta (s m : ByteArray) (r : Rc) (d : Int) : sealR s m r d = ⟨d, (sealR s m r d).box⟩ := by simp only [sealR]
theorem box_size (s m : ByteArray) (r : Rc) (d : Int) : (sealR s m r d).box.size = 48 := by
 have h := Bx.sealB_size (Ky.wrapB (Ky.ownB m d)) (Ky.nonceB r.seq) (Mb.headB r) (Ky.epochB s r.seq) (Ky.wrap_size _) (Ky.nonce_size _) (by rw [epoch_size]; decide)
 rw [epoch_size] at h
 rw [sealR_box, h]
theorem wraps_right (s m : ByteArray) (r : Rc) {ds : List Int} (h : ∀ d ∈ ds, 0 ≤ d ∧ d < 8) : ∀ x ∈ wrapsR s m r ds, RightW x := fun x hx => by
 obtain ⟨d, hd, rfl⟩ := List.mem_map.1 hx
 exact ⟨(h d hd).1, (h d hd).2, by rw [box_size]; decide⟩
theorem wraps_rise (s m : ByteArray) (r : Rc) {ds : List Int} (h : RiseI ds) : RiseW (wrapsR s m r ds) := fun i a b ha hb => by
 unfold wrapsR at ha hb
 rw [List.getElem?_map] at ha hb
 obtain ⟨x, hx, rfl⟩ := Option.map_eq_some_iff.1 ha
 obtain ⟨y, hy, rfl⟩ := Option.map_eq_some_iff.1 hb
 exact h i x y hx hy
theorem mems_range {l : List Rc} {e : Int} : ∀ d ∈ memsB l e, 0 ≤ d ∧ d < 8 := fun d hd => in_range ((mems_mem _ _ _).1 hd)
theorem withW_may {r : Rc} {ws : List Mb.Wp} (h : MayR r) (h1 : ∀ x ∈ ws, RightW x) (h2 : RiseW ws) : MayR (withW r ws) := ⟨h.1, h1, h2⟩
theorem withT_may {r : Rc} {t : ByteArray} (h : MayR r) (ht : t.size = 16 ∨ t.size = 0) : MayR (withT r t) := ⟨⟨h.1.1, h.1.2.1, h.1.2.2.1, h.1.2.2.2.1, h.1.2.2.2.2.1, h.1.2.2.2.2.2.1, ht⟩, h.2⟩
theorem sealed_may (s m : ByteArray) {l : List Rc} {kind dev : Int} (h : deedE l kind dev = 0) : MayR (sealedR s m l kind dev) :=
 withW_may (hung_may h) (wraps_right _ _ _ mems_range) (wraps_rise _ _ _ (mems_rise _ _))
theorem nextT_size (s m : ByteArray) {l : List Rc} {kind dev : Int} (h : deedE l kind dev = 0) : (nextT s m l kind dev).size = if l.length = 0 then 0 else 16 := by
 unfold nextT
 split
 ·rfl
 ·exact tagR_size (sealed_may s m h)
theorem next_may (s m : ByteArray) {l : List Rc} {kind dev : Int} (h : deedE l kind dev = 0) : MayR (nextR s m l kind dev) := by
 refine withT_may (sealed_may s m h) ?_
 rw [nextT_size s m h]
 split
 ·exact .inr rfl
 ·exact .inl rfl
theorem next_head (s m : ByteArray) {l : List Rc} {kind dev : Int} (h : deedE l kind dev = 0) : Mb.headB (nextR s m l kind dev) = Mb.headB (hung l kind dev) :=
 (headB_is (next_may s m h) (hung_may h)).2 ⟨rfl, rfl, rfl, rfl⟩
theorem next_step (s m : ByteArray) {l : List Rc} {kind dev : Int} (h : deedE l kind dev = 0) : StepR l (nextR s m l kind dev) := by
 obtain ⟨h0, h1, h2, h3⟩ := deed_yes h
 refine ⟨next_may s m h, rfl, rfl, fun e => ?_, fun (hk : kind = 1) => ?_, fun (hk : kind = 2) => ⟨?_, fun (hd : dev = 0) => ?_⟩⟩
 ·by_cases hq : kind = 1 ∧ dev = 0
  ·exact hq
  ·exact absurd (.inr (.inr (.inr (.inl ⟨by rw [e]; rfl, hq⟩)))) h0
 ·cases hb : inB l l.length dev with
  | false => exact hb
  | true => exact absurd ⟨hk, hb⟩ h1
 ·cases hb : inB l l.length dev with
  | true => exact hb
  | false => exact absurd ⟨hk, hb⟩ h2
 ·exact h0 (.inr (.inr (.inr (.inr ⟨hk, hd⟩))))
theorem deed_chain {l : List Rc} {kind dev : Int} (h : deedE l kind dev = 0) : ChainR l ∧ l.length < 40 := by
 obtain ⟨h0, h1, h2, h3⟩ := deed_yes h
 refine ⟨?_, by omega⟩
 by_cases hc : ChainR l
 ·exact hc
 ·exact absurd (.inr (.inr (.inl hc))) h0
theorem next_chain (s m : ByteArray) {l : List Rc} {kind dev : Int} (h : deedE l kind dev = 0) : ChainR (l ++ [nextR s m l kind dev]) := by
 obtain ⟨hc, hl⟩ := deed_chain h
 exact ⟨by rw [List.length_append, List.length_singleton]; omega, good_snoc.2 ⟨hc.2, next_step s m h⟩⟩
theorem next_in (s m : ByteArray) (l : List Rc) (kind dev : Int) (e d : Int) : inB (l ++ [nextR s m l kind dev]) e d = inB (l ++ [hung l kind dev]) e d := in_like (like_next s m l kind dev) e d
theorem next_mems (s m : ByteArray) (l : List Rc) (kind dev : Int) (e : Int) : memsB (l ++ [nextR s m l kind dev]) e = memsB (l ++ [hung l kind dev]) e := mems_like (like_next s m l kind dev) e
theorem next_wraps (s m : ByteArray) (l : List Rc) (kind dev : Int) : (nextR s m l kind dev).wraps = wrapsR s m (hung l kind dev) (memsN l kind dev) := rfl
theorem next_tag (s m : ByteArray) {l : List Rc} {kind dev : Int} (h : deedE l kind dev = 0) (h0 : l.length ≠ 0) {r : Rc} (hr : r = nextR s m l kind dev ∨ r = noTag (nextR s m l kind dev)) : tagR (Ky.epochB s l.length) r = (nextR s m l kind dev).tag := by
 have e : (nextR s m l kind dev).tag = tagR (Ky.epochB s l.length) (sealedR s m l kind dev) := by
  show nextT s m l kind dev = _
  unfold nextT; rw [if_neg h0]
 rw [e]
 rcases hr with rfl | rfl
 ·exact tagR_same (next_may s m h) (sealed_may s m h) rfl
 ·exact tagR_same (noTag_may (next_may s m h)) (sealed_may s m h) rfl
def firstW (l : List Mb.Wp) (d : Int) : Option Mb.Wp := l.find? (fun x => x.d == d)
noncomputable def unboxR (own : ByteArray) (r : Rc) (box : ByteArray) : Option ByteArray := Bx.openB (Ky.wrapB own) (Ky.nonceB r.seq) (Mb.headB r) box
def keyS (o : Option ByteArray) : Option ByteArray := match o with | some k => if k.size = 32 then some k else none | none => none
noncomputable def unwrapR (own : ByteArray) (r : Rc) (d : Int) : Option ByteArray := match firstW r.wraps d with | some x => keyS (unboxR own r x.box) | none => none
theorem unwrap_none {own : ByteArray} {r : Rc} {d : Int} (h : firstW r.wraps d = none) : unwrapR own r d = none := by unfold unwrapR; rw [h]
theorem unwrap_some {own : ByteArray} {r : Rc} {d : Int} {x : Mb.Wp} (h : firstW r.wraps d = some x) : unwrapR own r d = keyS (unboxR own r x.box) := by unfold unwrapR; rw [h]
theorem keyS_some {k : ByteArray} (h : k.size = 32) : keyS (some k) = some k := if_pos h
theorem keyS_no {k : ByteArray} (h : k.size ≠ 32) : keyS (some k) = none := if_neg h
theorem keyS_size {o : Option ByteArray} {k : ByteArray} (h : keyS o = some k) : k.size = 32 := by
 cases o with
 | none => cases h
 | some x =>
  by_cases hx : x.size = 32
  ·rw [keyS_some hx] at h; cases h; exact hx
  ·rw [keyS_no hx] at h; cases h
theorem unwrap_size {own : ByteArray} {r : Rc} {d : Int} {k : ByteArray} (h : unwrapR own r d = some k) : k.size = 32 := by
 unfold unwrapR at h
 split at h
 ·exact keyS_size h
 ·cases h
theorem first_map (s m : ByteArray) (r : Rc) (d : Int) : ∀ ds : List Int, firstW (wrapsR s m r ds) d = if d ∈ ds then some (sealR s m r d) else none
 | [] => rfl
 | x :: ds => by
  have ih := first_map s m r d ds
  show List.find? _ (sealR s m r x :: ds.map (sealR s m r)) = _
  by_cases h : x = d
  ·subst h
   rw [List.find?_cons_of_pos (by show (x == x) = true; exact beq_self_eq_true x), if_pos (by simp)]
  ·rw [List.find?_cons_of_neg (by show ¬ (x == d) = true; simpa using h)]
   have e : (d ∈ x :: ds) ↔ d ∈ ds := by
    rw [List.mem_cons]
    exact ⟨fun h1 => h1.elim (fun h2 => absurd h2.symm h) id, .inr⟩
   unfold firstW wrapsR at ih
   rw [ih]
   by_cases h2 : d ∈ ds
   ·rw [if_pos h2, if_pos (e.2 h2)]
   ·rw [if_neg h2, if_neg (fun h3 => h2 (e.1 h3))]
theorem next_opens (s m : ByteArray) {l : List Rc} {kind dev : Int} (h : deedE l kind dev = 0) (d : Int) : unwrapR (Ky.ownB m d) (nextR s m l kind dev) d = if inB (l ++ [nextR s m l kind dev]) ((l.length : Int) + 1) d = true then some (Ky.epochB s ((l.length : Int) + 1)) else none := by
 rw [next_in]
 have hf : firstW (nextR s m l kind dev).wraps d = if d ∈ memsB (l ++ [hung l kind dev]) ((l.length : Int) + 1) then some (sealR s m (hung l kind dev) d) else none := by
  rw [next_wraps]; exact first_map s m (hung l kind dev) d _
 by_cases hq : inB (l ++ [hung l kind dev]) ((l.length : Int) + 1) d = true
 ·rw [if_pos ((mems_mem _ _ _).2 hq)] at hf
  rw [if_pos hq, unwrap_some hf]
  have e1 : (nextR s m l kind dev).seq = (l.length : Int) + 1 := rfl
  have e2 : (hung l kind dev).seq = (l.length : Int) + 1 := rfl
  have e : unboxR (Ky.ownB m d) (nextR s m l kind dev) (sealR s m (hung l kind dev) d).box = some (Ky.epochB s ((l.length : Int) + 1)) := by
   unfold unboxR
   rw [sealR_box, next_head s m h, e1, e2]
   exact Bx.open_seal _ _ _ _ (Ky.wrap_size _) (Ky.nonce_size _) (by rw [epoch_size]; decide)
  rw [e]
  exact keyS_some (epoch_size _ _)
 ·rw [if_neg (fun hm => hq ((mems_mem _ _ _).1 hm))] at hf
  rw [if_neg hq, unwrap_none hf]
def keyOf (ks : List Mb.Wp) (n : Int) : Option ByteArray := (firstW ks n).map (·.box)
def BadTag (ks : List Mb.Wp) (l : List Rc) (own : ByteArray) (id : Int) (r : Rc) : Prop :=
 (∃ k, keyOf ks l.length = some k ∧ r.tag ≠ tagR k r) ∨ (inB (l ++ [r]) ((l.length : Int) + 1) id = true ∧ unwrapR own r id = none)
open Classical in
noncomputable def takeE (l : List Rc) (ks : List Mb.Wp) (own : ByteArray) (id : Int) (r : Rc) : Int :=
 if ¬ (ChainR l ∧ RiseW ks) then 1 else if 1 ≤ r.seq ∧ r.seq ≤ l.length then (if l[(r.seq - 1).toNat]? = some r then 10 else 11) else if (l.length : Int) + 1 < r.seq then 6 else if ¬ ChainR (l ++ [r]) then 11 else if BadTag ks l own id r then 9 else 0
def LogKeys (l : List Rc) (ks : List Mb.Wp) (own : ByteArray) (id : Int) (r : Rc) (k : Int) (l' : List Rc) (ks' : List Mb.Wp) : Prop :=
 (k ≠ 0 ∧ l' = l ∧ ks' = ks) ∨ (k = 0 ∧ l' = l ++ [r] ∧ ((inB (l ++ [r]) ((l.length : Int) + 1) id = false ∧ ks' = ks) ∨ (inB (l ++ [r]) ((l.length : Int) + 1) id = true ∧ ∃ x, unwrapR own r id = some x ∧ ks' = ks ++ [⟨(l.length : Int) + 1, x⟩])))
theorem take_arg {l : List Rc} {ks : List Mb.Wp} {own : ByteArray} {id : Int} {r : Rc} (h : ¬ (ChainR l ∧ RiseW ks)) : takeE l ks own id r = 1 := if_pos h
theorem take_same {l : List Rc} {ks : List Mb.Wp} {own : ByteArray} {id : Int} {r : Rc} (h : ChainR l ∧ RiseW ks) (h1 : 1 ≤ r.seq ∧ r.seq ≤ l.length) (h2 : l[(r.seq - 1).toNat]? = some r) : takeE l ks own id r = 10 := by
 unfold takeE; rw [if_neg (fun k => k h), if_pos h1, if_pos h2]
theorem take_fork {l : List Rc} {ks : List Mb.Wp} {own : ByteArray} {id : Int} {r : Rc} (h : ChainR l ∧ RiseW ks) (h1 : 1 ≤ r.seq ∧ r.seq ≤ l.length) (h2 : l[(r.seq - 1).toNat]? ≠ some r) : takeE l ks own id r = 11 := by
 unfold takeE; rw [if_neg (fun k => k h), if_pos h1, if_neg h2]
theorem take_early {l : List Rc} {ks : List Mb.Wp} {own : ByteArray} {id : Int} {r : Rc} (h : ChainR l ∧ RiseW ks) (h1 : (l.length : Int) + 1 < r.seq) : takeE l ks own id r = 6 := by
 unfold takeE; rw [if_neg (fun k => k h), if_neg (by omega), if_pos h1]
theorem take_other {l : List Rc} {ks : List Mb.Wp} {own : ByteArray} {id : Int} {r : Rc} (h : ChainR l ∧ RiseW ks) (h1 : ¬ (1 ≤ r.seq ∧ r.seq ≤ l.length)) (h2 : ¬ (l.length : Int) + 1 < r.seq) (h3 : ¬ ChainR (l ++ [r])) : takeE l ks own id r = 11 := by
 unfold takeE; rw [if_neg (fun k => k h), if_neg h1, if_neg h2, if_pos h3]
theorem take_tag {l : List Rc} {ks : List Mb.Wp} {own : ByteArray} {id : Int} {r : Rc} (h : ChainR l ∧ RiseW ks) (h3 : ChainR (l ++ [r])) (h4 : BadTag ks l own id r) : takeE l ks own id r = 9 := by
 have hs : r.seq = (l.length : Int) + 1 := (good_snoc.1 h3.2).2.2.1
 unfold takeE; rw [if_neg (fun k => k h), if_neg (by omega), if_neg (by omega), if_neg (fun k => k h3), if_pos h4]
theorem take_ok {l : List Rc} {ks : List Mb.Wp} {own : ByteArray} {id : Int} {r : Rc} (h : ChainR l ∧ RiseW ks) (h3 : ChainR (l ++ [r])) (h4 : ¬ BadTag ks l own id r) : takeE l ks own id r = 0 := by
 have hs : r.seq = (l.length : Int) + 1 := (good_snoc.1 h3.2).2.2.1
 unfold takeE; rw [if_neg (fun k => k h), if_neg (by omega), if_neg (by omega), if_neg (fun k => k h3), if_neg h4]
theorem chain_at {l : List Rc} (h : GoodR l) {t : Rc} {i : Nat} {n : Int} (ht : l[i]? = some t) (hs : t.seq = n) : 1 ≤ n ∧ n ≤ l.length ∧ (n - 1).toNat = i := by
 have h1 := good_seq h ht
 have h2 := (List.getElem?_eq_some_iff.1 ht).1
 omega
theorem rise_lt {l : List Mb.Wp} (h : RiseW l) {i : Nat} {a : Mb.Wp} (ha : l[i]? = some a) : ∀ (j : Nat) (b : Mb.Wp), i < j → l[j]? = some b → a.d < b.d
 | 0, b, hj, _ => absurd hj (by omega)
 | j + 1, b, hj, hb => by
  have hl := (List.getElem?_eq_some_iff.1 hb).1
  by_cases e : i = j
  ·subst e; exact h i a b ha hb
  ·obtain ⟨c, hc⟩ : ∃ c, l[j]? = some c := ⟨_, List.getElem?_eq_getElem (by omega)⟩
   have h1 := rise_lt h ha j c (by omega) hc
   have h2 := h j c b hc hb
   omega
theorem keyOf_of {ks : List Mb.Wp} (h : RiseW ks) {k : Mb.Wp} {n : Int} (hk : k ∈ ks) (hn : k.d = n) : keyOf ks n = some k.box := by
 obtain ⟨i, hi⟩ := List.getElem?_of_mem hk
 unfold keyOf firstW
 cases hf : ks.find? (fun x => x.d == n) with
 | none =>
  have := List.find?_eq_none.1 hf k hk
  simp [hn] at this
 | some y =>
  have hy : y.d = n := by have := List.find?_some hf; simpa using this
  obtain ⟨j, hj⟩ := List.getElem?_of_mem (List.mem_of_find?_eq_some hf)
  rcases Nat.lt_trichotomy i j with e | e | e
  ·have := rise_lt h hi j y e hj; omega
  ·subst e; rw [hi] at hj; cases hj; rfl
  ·have := rise_lt h hj i k e hi; omega
theorem keyOf_mem {ks : List Mb.Wp} {n : Int} {x : ByteArray} (h : keyOf ks n = some x) : ∃ k ∈ ks, k.d = n ∧ k.box = x := by
 unfold keyOf firstW at h
 obtain ⟨y, hy, rfl⟩ := Option.map_eq_some_iff.1 h
 exact ⟨y, List.mem_of_find?_eq_some hy, by have := List.find?_some hy; simpa using this, rfl⟩
end Go.Proofs.YtpcjbjpofcdjeaaGreatDoor.Wc
