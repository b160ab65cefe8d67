/-
  Proved: whatever values of its parameters' types it is called with, deaddroplaw13.SnapBack returns true, and each argument reads behind the call as it read before; the listed package-level variables being what the program's own text lays (the card ties them).
  Conditions: none but those of the card itself.
-/
import Derived.Test.YthijiefopcnclaaGreatDoorCards
import Derived.Test.YthijiefopcnclaaGreatDoorTie
import Derived.WalkKit
import Derived.ProofKit
import Derived.OpenShut
import Derived.ShutString
import Derived.Below
import Derived.ChangeOld
import Derived.Deep.DeepHandedRow
import Derived.LaidSub
import Derived.LaidHandle
import Derived.LaidLaws
import Derived.RowKitTokens
import Derived.Stop.LaidTwo
import Derived.Test.YthijiefopcnclaaGreatDoorSnLaw
import Derived.Test.YthijiefopcnclaaGreatDoorJnB
import Derived.Test.YthijiefopcnclaaGreatDoorZRow
import Derived.Test.YthijiefopcnclaaGreatDoorFtD
import Derived.Test.YthijiefopcnclaaGreatDoorTdA
import Derived.Deep.DeepCutAuto

namespace Go.Proofs.YthijiefopcnclaaGreatDoor.snapBack
open Go.ChangeShapes Go.WideShapes Go.ChangeAt Go.RowKit
open Go.ChangeMaps (open_string shut_string)
open Go.Proofs.YthijiefopcnclaaGreatDoor.Mm Go.Proofs.YthijiefopcnclaaGreatDoor.Dt Go.Proofs.YthijiefopcnclaaGreatDoor.Td Go.Proofs.YthijiefopcnclaaGreatDoor.Vw Go.Proofs.YthijiefopcnclaaGreatDoor.Wd Go.Proofs.YthijiefopcnclaaGreatDoor
set_option linter.unusedVariables false

theorem own : ownKnob Tryz.prog.godebug = none := by kernel_rfl
theorem laidOut : laidOutB Tryz.prog = true := by kernel_rfl
/-- What the walk is told of a slice of integers that came in. -/
def IsRow (k : IntKind) (w : World) (a : Option Addr) (len cap : Nat) (zs : List Int) : Prop :=
  (a = none ∧ len = 0 ∧ cap = 0 ∧ zs = []) ∨
  ∃ x, a = some x ∧ len ≤ cap ∧ cap ≤ maxLen ∧ zs.length = cap ∧ (∀ i, i < zs.length → w.cell? (x.add i) = some (.int k (zs.getD i 0))) ∧ ∀ n ∈ zs, (Lit.int k n).wf = true

attribute [local go_sem] Td.upon_value Td.upon_skip Td.upon_enter Td.upon_row Td.look_tmp Td.look_const Td.look_func Td.look_global
theorem gen_all {g : Grp} : ∀ {l : List St} {a : St}, Gen g a → (∀ s ∈ l, Gen g s) → Gen g (l.foldl joinS a)
  | [], _, h, _ => h
  | s :: l, a, h, hl => gen_all (l := l) (a := joinS a s) (.two _ _ h (hl s (by simp))) fun t ht => hl t (by simp [ht])
theorem gen_l {g : Grp} : ∀ s ∈ g.l, Gen g s := fun s hs => by
  unfold Grp.l at hs
  simp only [List.mem_cons, List.not_mem_nil, or_false] at hs
  rcases hs with rfl | rfl | rfl | rfl
  · exact Gen.one 0 (.inl rfl)
  · exact Gen.one 1 (.inr (.inl rfl))
  · exact Gen.one 2 (.inr (.inr (.inl rfl)))
  · exact Gen.one 3 (.inr (.inr (.inr rfl)))
theorem gen_lens {g : Grp} (h : Fine g 40) {s : St} (hs : Gen g s) : Lens s := by
  have h1 := (hs.low h).short (hs.may h (by omega))
  exact ⟨by omega, by omega⟩
theorem parts_grp {g : Grp} (h : Fine g 40) : Parts g.l ∧ ∀ k, Lens (allS (g.l.take k)) :=
  ⟨⟨fun s hs => ⟨(gen_l s hs).ss h, gen_lens h (gen_l s hs)⟩, fun i j _ => gen_lens h (gen_all .nothing fun s hs => gen_l s (List.mem_of_mem_drop (List.mem_of_mem_take hs)))⟩, fun k => gen_lens h (gen_all .nothing fun s hs => gen_l s (List.mem_of_mem_take hs))⟩
theorem bytesRow_at2 (s : ByteArray) (cap i : Nat) (h : i < s.size) : (bytesRow s cap)[i]? = some (w8 (s.data.toList.getD i 0)) := by
  have h' : i < s.data.size := h
  have h2 : s.data.toList[i]? = some s.data[i] := by rw [Array.getElem?_toList, Array.getElem?_eq_getElem h']
  rw [List.getD_eq_getElem?_getD, h2]
  unfold bytesRow
  rw [Array.getElem?_append_left (by rw [Array.size_map]; exact h'), Array.getElem?_map, Array.getElem?_eq_getElem h']
  rfl
theorem bytesRow_ge (s : ByteArray) (cap : Nat) : s.size ≤ (bytesRow s cap).size := by
  unfold bytesRow; rw [Array.size_append, Array.size_map]; exact Nat.le_add_right _ _
theorem rowF_text {w : World} {g : Nat} {C : Array Value} {l : List UInt8} {n : Nat} (h : RowF w g 5 C) (hn : l.length = n) (hC : ∀ i, i < n → C[i]? = some (w8 (l.getD i 0))) (c : Nat) :
    (convert 36 9 (.slice (some ⟨g, 0, none⟩) n c)).run Tryz.prog w = .ok (.string ⟨l.toArray⟩) w := by
  subst hn
  refine run_convert_bytes_back (P := Tryz.prog) w 36 9 5 ⟨g, 0, none⟩ c l Tryz.underlying36 Tryz.underlying5 Tryz.underlying9 (fun j hj => ?_)
  have hadd : (⟨g, 0, none⟩ : Addr).add j = ⟨g, j, none⟩ := by unfold Addr.add; split <;> simp_all
  rw [hadd]
  refine h.at_ ((hC j hj).trans ?_)
  rw [List.getD_eq_getElem?_getD, List.getElem?_eq_getElem hj]; rfl
theorem u16_bound {a : Int} (h : (Lit.int .u16 a).wf = true) : 0 ≤ a ∧ a ≤ 65535 := by
  have h1 : IntKind.u16.min = 0 := by decide
  have h2 : IntKind.u16.max = 65535 := by decide
  simp only [Lit.wf, h1, h2, Bool.and_eq_true, decide_eq_true_eq] at h
  exact h
theorem u8_byte {a : Int} (h0 : 0 ≤ a) (h1 : a ≤ 255) : ∃ m : UInt8, a = (m.toNat : Int) := ⟨UInt8.ofNat a.toNat, by rw [UInt8.toNat_ofNat']; omega⟩
theorem same_set (l : List UInt8) (y : Nat) (hy : y < l.length) (m : UInt8) (h : l.set y (l.getD y 0 ^^^ m) = l) : m = 0 := by
  have h2 := congrArg (fun l => l.getD y 0) h
  simp only [List.getD_eq_getElem?_getD, List.getElem?_set_self hy, Option.getD_some] at h2
  have h3 : l[y]?.getD 0 ^^^ (l[y]?.getD 0 ^^^ m) = l[y]?.getD 0 ^^^ l[y]?.getD 0 := by rw [h2]
  rwa [← UInt8.xor_assoc, UInt8.xor_self, UInt8.zero_xor] at h3
theorem set_get (l : List UInt8) (y : Nat) (v : UInt8) (h : y < l.length) : (l.set y v).getD y 0 = v := by
  rw [List.getD_eq_getElem?_getD, List.getElem?_set_self h]; rfl
attribute [local go_sem] xor8
theorem sizeF_append : ∀ a b : List Fc, sizeF (a ++ b) = sizeF a + sizeF b
  | [], b => by simp [sizeF]
  | x :: a, b => by rw [List.cons_append, sizeF, sizeF, sizeF_append a b]; omega
theorem sizeF_next {l : List Fc} {k : Nat} {x : Fc} (h : l[k]? = some x) : sizeF (l.take (k + 1)) = sizeF (l.take k) + 51 + x.key.size + x.item.size := by
  rw [List.take_add_one, h, sizeF_append]
  show _ + (51 + x.key.size + x.item.size + 0) = _
  omega
theorem sizeF_take (l : List Fc) (k : Nat) : sizeF (l.take k) ≤ sizeF l := by
  have h := sizeF_append (l.take k) (l.drop k)
  rw [List.take_append_drop] at h
  omega
theorem sizeF_le : ∀ l : List Fc, (∀ x ∈ l, RightF x) → sizeF l ≤ 291 * l.length
  | [], _ => by simp [sizeF]
  | x :: l, h => by
    have h1 := sizeF_le l fun y hy => h y (by simp [hy])
    have h2 := h x (by simp)
    unfold RightF at h2
    rw [sizeF, List.length_cons]; omega
theorem facts_short {s : St} (h : MayS s) : sizeF s.facts ≤ 120000 := by
  have h1 := sizeF_le s.facts fun x hx => (h.2.2.1 x hx).1
  have h2 := h.2.1
  omega

set_option maxHeartbeats 40000000 in
set_option maxRecDepth 100000 in
theorem walk (a0 : Option Addr) (len0 cap0 : Nat) (z0 : List Int) (a1 : Option Addr) (len1 cap1 : Nat) (z1 : List Int) (a2 : Int) (a3 : Int) (a4 : Int) (w : World) (w0 : IsRow .u8 w a0 len0 cap0 z0) (w1 : IsRow .u8 w a1 len1 cap1 z1) (w2 : (Lit.int .u16 a2).wf = true) (w3 : (Lit.int .u16 a3).wf = true) (w4 : (Lit.int .u8 a4).wf = true) (hT : w.cell? ⟨0, 0, none⟩ = some (.iface 155 (.agg #[.pointer (some ⟨2, 53, none⟩)]))) :
    Calls Tryz.prog 4 #[.slice a0 len0 cap0, .slice a1 len1 cap1, .int .u16 a2, .int .u16 a3, .int .u8 a4] w fun e w' => e = .returned (.bool true) ∧ Below w.heap.size w w' := by
  obtain ⟨b2, b2'⟩ := u16_bound w2
  obtain ⟨b3, b3'⟩ := u16_bound w3
  obtain ⟨b4, b4'⟩ := u8_of w4
  obtain ⟨m, rfl⟩ := u8_byte b4 b4'
  obtain ⟨hnl1, _, _⟩ := nl_of_row w1
  obtain ⟨t, ht0⟩ : ∃ t, makeK (z1.take len1) (min (len1 / 2) 40) = t := ⟨_, rfl⟩
  have HPt : Hid (Puts t) := by rw [← ht0]; exact make_puts _ _ (by omega)
  have HLt : Hid (t.seen.length ≤ 320 ∧ t.facts.length ≤ 320) := by rw [← ht0]; exact make_short _ _ (by omega)
  have HM : Hid (∀ W, w.grownBy W none → Calls Tryz.prog 16 #[.slice a1 len1 cap1] W (States t W)) := fun W hW => by rw [← ht0]; exact make_any a1 len1 cap1 _ W (hnl1.keep hW)
  obtain ⟨hnl0, _, _⟩ := nl_of_row w0
  obtain ⟨g, hg0⟩ : ∃ g, apartK (z0.take len0) (min (len0 / 3) 40) = g := ⟨_, rfl⟩
  have hfine : Fine g 40 := by rw [← hg0]; exact (apartK_fine _ _ (Nat.min_le_right _ _)).more (Nat.min_le_right _ _)
  have HFine := Lib.hid hfine
  have HAp : Hid (∀ W, w.grownBy W none → Calls Tryz.prog 15 #[.slice a0 len0 cap0] W (Grps g W)) := fun W hW => by rw [← hg0]; exact apart9_any a0 len0 cap0 _ W (hnl0.keep hW)
  clear hnl0 hg0
  obtain ⟨s, hs0⟩ : ∃ s, allS g.l = s := ⟨_, rfl⟩
  have HPl := Lib.hid (parts_grp hfine)
  have gen_s : Gen g s := by rw [← hs0]; exact (all_above hfine).1
  have HLs : Hid (s.seen.length ≤ 320 ∧ s.facts.length ≤ 320) := by
    have h := (gen_s.low hfine).short (gen_s.may hfine (by omega))
    show _ ∧ _
    omega
  have HPs : Hid (Puts s) := ⟨gen_s.may hfine (by omega), by have := HLs.out; omega⟩
  have Hsd := Lib.hid hs0
  have HT : Hid (ErrT w) := hT
  have HAw : Hid (∀ W, w.grownBy W none → Calls Tryz.prog 8 #[] W fun e w' => e = .returned (.bool true) ∧ W.grownBy w' none) := fun W hW => awake13_any W (HT.out.keep hW (by simp))
  clear hs0 ht0 hnl1 gen_s hfine w0 w1 w2 w3 w4 b4 b4' hT
  by_cases hm : m = 0
  · subst hm
    have e1 : (((0 : UInt8).toNat : Int) == 0) = true := rfl
    have e2 : ((0 : UInt8).toNat == 0) = true := rfl
    go_enter Tryz.func4, Tryz.ntmps4
    go_wp2_with fail
    refine (HAw.out w (gb_refl _ _)).mono ?_
    rintro e v9 ⟨rfl, k9⟩
    go_wp2_with fail
    go_ret
    exact ⟨rfl, gb_below k9 (Nat.le_refl _)⟩
  have hmz : m.toNat ≠ 0 := fun e => hm (UInt8.toNat_inj.1 e)
  have e1 : ((m.toNat : Int) == 0) = false := by simpa using hmz
  have e2 : (m.toNat == 0) = false := by simpa using hmz
  have Hm := Lib.hid hm
  have Hb : Hid (0 ≤ a2 ∧ a2 ≤ 65535 ∧ 0 ≤ a3 ∧ a3 ≤ 65535) := ⟨b2, b2', b3, b3'⟩
  clear hm hmz b2 b2' b3 b3'
  go_enter Tryz.func4, Tryz.ntmps4
  go_upto_region 3 with fail
  clear e1 e2
  go_wp2_with fail
  refine (HAp.out w (gb_refl _ _)).mono ?_
  rintro e w1 ⟨gl, rfl, hgr, hgl, g1⟩
  go_wp2_with fail
  refine (refAll_any (some ⟨gl, 0, none⟩) 4 4 g.l w1 hgr.al HPl.out.1.1 (fun k _ => HPl.out.2 k) (by omega)).mono ?_
  rw [Hsd.out]
  rintro e w2 ⟨As, n1, cs, Bs, m1, ds, rfl, hs, _, _, g2⟩
  have hg12 := gb_none g1 g2
  go_wp2_with fail
  refine (HM.out w2 hg12).mono ?_
  rintro e w3 ⟨At, n2, ct, Bt, m2, dt, rfl, ht, _, _, g3⟩
  obtain ⟨bs, hbs⟩ : ∃ bs, w3.heap.size = bs := ⟨_, rfl⟩
  obtain ⟨bt, hbt⟩ : ∃ bt, bs + 1 = bt := ⟨_, rfl⟩
  obtain ⟨Wz, hWz⟩ : ∃ Wz, (w3.alloc (.cells #[.slice none 0 0, .slice none 0 0] 25)).alloc (.cells #[.slice none 0 0, .slice none 0 0] 25) = Wz := ⟨_, rfl⟩
  have hrn : Row Wz bt 25 #[.slice none 0 0, .slice none 0 0] := by rw [← hWz, ← hbt, ← hbs]; have h := Row.new (w3.alloc (.cells #[.slice none 0 0, .slice none 0 0] 25)) 25 #[.slice none 0 0, .slice none 0 0]; rwa [World.size_alloc] at h
  have hrm : Row Wz bs 25 #[.slice none 0 0, .slice none 0 0] := by rw [← hWz, ← hbs]; exact (Row.new _ _ _).alloc _
  have hgg : w3.grownBy Wz none := by rw [← hWz]; exact gb_alloc (gb_alloc (gb_refl w3 none) _) _
  have hne : bs ≠ bt := by omega
  have hge : w3.heap.size ≤ bs ∧ w3.heap.size ≤ bt := by omega
  have f0 : Wz.frozen? ⟨bs, 0, none⟩ = false := hrm.free 0
  have f1 : Wz.frozen? ⟨bs, 1, none⟩ = false := hrm.free 1
  have u0 : Wz.cell? ⟨bs, 0, none⟩ = some (.slice none 0 0) := hrm.at_ (i := 0) rfl
  have u1 : Wz.cell? ⟨bs, 1, none⟩ = some (.slice none 0 0) := hrm.at_ (i := 1) rfl
  have ka : Wz.grownBy ((Wz.setCell ⟨bs, 0, none⟩ (.slice As n1 cs)).setCell ⟨bs, 1, none⟩ (.slice Bs m1 ds)) (some bs) := gb_then (gb_set1 _ _ _ _) (gb_set1 _ _ _ _)
  have kb : ((Wz.setCell ⟨bs, 0, none⟩ (.slice As n1 cs)).setCell ⟨bs, 1, none⟩ (.slice Bs m1 ds)).grownBy ((((Wz.setCell ⟨bs, 0, none⟩ (.slice As n1 cs)).setCell ⟨bs, 1, none⟩ (.slice Bs m1 ds)).setCell ⟨bt, 0, none⟩ (.slice At n2 ct)).setCell ⟨bt, 1, none⟩ (.slice Bt m2 dt)) (some bt) := gb_then (gb_set1 _ _ _ _) (gb_set1 _ _ _ _)
  have hrn2 := hrn.kept ka (by simpa using Ne.symm hne)
  have q0 : ((Wz.setCell ⟨bs, 0, none⟩ (.slice As n1 cs)).setCell ⟨bs, 1, none⟩ (.slice Bs m1 ds)).frozen? ⟨bt, 0, none⟩ = false := hrn2.free 0
  have q1 : ((Wz.setCell ⟨bs, 0, none⟩ (.slice As n1 cs)).setCell ⟨bs, 1, none⟩ (.slice Bs m1 ds)).frozen? ⟨bt, 1, none⟩ = false := hrn2.free 1
  have v0 : ((Wz.setCell ⟨bs, 0, none⟩ (.slice As n1 cs)).setCell ⟨bs, 1, none⟩ (.slice Bs m1 ds)).cell? ⟨bt, 0, none⟩ = some (.slice none 0 0) := hrn2.at_ (i := 0) rfl
  have v1 : ((Wz.setCell ⟨bs, 0, none⟩ (.slice As n1 cs)).setCell ⟨bs, 1, none⟩ (.slice Bs m1 ds)).cell? ⟨bt, 1, none⟩ = some (.slice none 0 0) := hrn2.at_ (i := 1) rfl
  have rs9 := ((hrm.set_ 0 (.slice As n1 cs)).set_ 1 (.slice Bs m1 ds)).kept kb (by simpa using hne)
  have rt9 := (hrn2.set_ 0 (.slice At n2 ct)).set_ 1 (.slice Bt m2 dt)
  have gg9 : w3.grownBy ((((Wz.setCell ⟨bs, 0, none⟩ (.slice As n1 cs)).setCell ⟨bs, 1, none⟩ (.slice Bs m1 ds)).setCell ⟨bt, 0, none⟩ (.slice At n2 ct)).setCell ⟨bt, 1, none⟩ (.slice Bt m2 dt)) none := gb_new (gb_new hgg ka hge.1) kb hge.2
  have Hnm : Hid (w.grownBy ((((Wz.setCell ⟨bs, 0, none⟩ (.slice As n1 cs)).setCell ⟨bs, 1, none⟩ (.slice Bs m1 ds)).setCell ⟨bt, 0, none⟩ (.slice At n2 ct)).setCell ⟨bt, 1, none⟩ (.slice Bt m2 dt)) none ∧ Row ((((Wz.setCell ⟨bs, 0, none⟩ (.slice As n1 cs)).setCell ⟨bs, 1, none⟩ (.slice Bs m1 ds)).setCell ⟨bt, 0, none⟩ (.slice At n2 ct)).setCell ⟨bt, 1, none⟩ (.slice Bt m2 dt)) bs 25 #[.slice As n1 cs, .slice Bs m1 ds] ∧ Row ((((Wz.setCell ⟨bs, 0, none⟩ (.slice As n1 cs)).setCell ⟨bs, 1, none⟩ (.slice Bs m1 ds)).setCell ⟨bt, 0, none⟩ (.slice At n2 ct)).setCell ⟨bt, 1, none⟩ (.slice Bt m2 dt)) bt 25 #[.slice At n2 ct, .slice Bt m2 dt] ∧ SL ((((Wz.setCell ⟨bs, 0, none⟩ (.slice As n1 cs)).setCell ⟨bs, 1, none⟩ (.slice Bs m1 ds)).setCell ⟨bt, 0, none⟩ (.slice At n2 ct)).setCell ⟨bt, 1, none⟩ (.slice Bt m2 dt)) As n1 Bs m1 s ∧ SL ((((Wz.setCell ⟨bs, 0, none⟩ (.slice As n1 cs)).setCell ⟨bs, 1, none⟩ (.slice Bs m1 ds)).setCell ⟨bt, 0, none⟩ (.slice At n2 ct)).setCell ⟨bt, 1, none⟩ (.slice Bt m2 dt)) At n2 Bt m2 t) := ⟨gb_none (gb_none hg12 g3) gg9, rs9, rt9, (hs.keep g3).keep gg9, ht.keep gg9⟩
  clear hrn hrm hgg hs ht g1 g2 g3 hg12 hgr hgl hge ka kb hrn2 rs9 rt9 gg9
  go_upto_region 4 with fail
  clear f0 f1 u0 u1 q0 q1 v0 v1 hne hWz
  refine Td.named (fun W' => w.grownBy W' none ∧ Row W' bs 25 #[.slice As n1 cs, .slice Bs m1 ds] ∧ Row W' bt 25 #[.slice At n2 ct, .slice Bt m2 dt] ∧ SL W' As n1 Bs m1 s ∧ SL W' At n2 Bt m2 t) Hnm.out ?_
  clear Hnm hbs hbt
  rintro W4 ⟨n4, r1, r2, l1, l2⟩
  have HG4 := Lib.hid n4
  have HXs : Hid (∀ W, W4.grownBy W none → W.cell? ⟨bs, 0, none⟩ = some (.slice As n1 cs) ∧ W.cell? ⟨bs, 1, none⟩ = some (.slice Bs m1 ds)) := fun W hW => ⟨(r1.kept hW (by simp)).at_ (i := 0) rfl, (r1.kept hW (by simp)).at_ (i := 1) rfl⟩
  have HXt : Hid (∀ W, W4.grownBy W none → W.cell? ⟨bt, 0, none⟩ = some (.slice At n2 ct) ∧ W.cell? ⟨bt, 1, none⟩ = some (.slice Bt m2 dt)) := fun W hW => ⟨(r2.kept hW (by simp)).at_ (i := 0) rfl, (r2.kept hW (by simp)).at_ (i := 1) rfl⟩
  have HSs := Lib.hid l1
  have HSt := Lib.hid l2
  have Hn : Hid (n1 ≤ 320 ∧ m1 ≤ 320 ∧ n2 ≤ 320 ∧ m2 ≤ 320) := by have h1 := l1.1.1; have h2 := l1.2.1; have h3 := l2.1.1; have h4 := l2.2.1; have h5 := HLs.out; have h6 := HLt.out; show _ ∧ _ ∧ _ ∧ _; omega
  have Hbl : Hid (bs < W4.heap.size ∧ bt < W4.heap.size) := ⟨r1.lt, r2.lt⟩
  clear n4 r1 r2 l1 l2
  have HPp : Hid (∀ W, W4.grownBy W none → Calls Tryz.prog 11 #[.agg #[.slice As n1 cs, .slice Bs m1 ds]] W fun e w' => e = .returned (.string (stW s).bytes) ∧ W.grownBy w' none) := fun W hW => putS_yes As Bs n1 cs m1 ds s W (HSs.out.keep hW) HPs.out (by have := Hn.out; omega)
  have HPq : Hid (∀ W, W4.grownBy W none → Calls Tryz.prog 11 #[.agg #[.slice At n2 ct, .slice Bt m2 dt]] W fun e w' => e = .returned (.string (stW t).bytes) ∧ W.grownBy w' none) := fun W hW => putS_yes At Bt n2 ct m2 dt t W (HSt.out.keep hW) HPt.out (by have := Hn.out; omega)
  obtain ⟨qe, hqe⟩ : ∃ qe : Bool, qe = true ↔ s = t := by
    by_cases h : s = t
    · exact ⟨true, fun _ => h, fun _ => rfl⟩
    · exact ⟨false, fun e => (by cases e), fun e => absurd e h⟩
  have hPis := putB_is HPs.out
  have hQis := putB_is HPt.out
  have hPd := putB_data HPs.out
  have hPz := putB_none HPs.out
  have hPsh := putB_short HPs.out (by have := HLs.out; omega)
  have hPsz : (stW s).bytes.size ≤ 1000000 := by
    rw [putB_size HPs.out]
    have h1 := HLs.out
    have h2 := facts_short HPs.out.1
    omega
  have hneq : qe = false → (stW s).bytes ≠ (stW t).bytes := fun h e => by
    rw [e] at hPis
    rw [hqe.2 (put_one hPis hQis)] at h
    cases h
  have hkpq : ((stW s).bytes.toList == (stW t).bytes.toList) = qe := by
    cases qe with
    | true => rw [hqe.1 rfl]; exact str_eq rfl
    | false => exact str_ne (hneq rfl)
  clear hneq
  generalize (stW s).bytes = P at *
  generalize (stW t).bytes = Q at *
  have Hqe := Lib.hid hqe
  have HPis := Lib.hid hPis
  have HPd := Lib.hid hPd
  have HPz : Hid (0 < P.size) := by show 0 < _; omega
  have HPsh := Lib.hid hPsh
  have HPsz := Lib.hid hPsz
  have Hkpq := Lib.hid hkpq
  have Hnq : Hid (∀ W, (binOp .neq 4 (.bool qe) (.bool qe)).run Tryz.prog W = .ok (.bool false) W) := fun W => by cases qe <;> rfl
  clear hqe hPis hQis hPd hPz hPsh hPsz hkpq
  apply wp_region_told (le := fun a b => a.grownBy b none) [isV _, isV _, isV _, isV _, isV _, isV _]
  case hn => rfl
  case hm => kernel_rfl
  case hB => kernel_rfl
  case ht => exact fun _ _ _ h k => gb_none h k
  case hw => exact gb_drew (gb_refl _ _)
  -- 0: law.go:34 load
  apply told_is
  · intro W f hW hE h0 K hK
    have e11 := h0 11 (by kernel_rfl)
    conv at e11 => rhs; whnf
    clear hE h0
    refine yes_of (want_free rfl) ?_
    obtain ⟨z0, z1⟩ := HXs.out W hW
    go_simp; exact hK _ _ (gb_refl _ _) rfl
  -- 1: law.go:34 call
  apply told_is
  · intro W f hW hE h0 K hK
    have e32 : f 32 = _ := hE 0 32 _ rfl (by kernel_rfl)
    clear hE h0
    refine yes_of (want_free rfl) ?_
    go_simp
    refine (HPp.out W hW).mono ?_
    rintro e w1' ⟨rfl, g'⟩
    exact ⟨_, rfl, hK _ _ g' rfl⟩
  -- 2: law.go:34 load
  apply told_is
  · intro W f hW hE h0 K hK
    have e12 := h0 12 (by kernel_rfl)
    conv at e12 => rhs; whnf
    clear hE h0
    refine yes_of (want_free rfl) ?_
    obtain ⟨z0, z1⟩ := HXt.out W hW
    go_simp; exact hK _ _ (gb_refl _ _) rfl
  -- 3: law.go:34 call
  apply told_is
  · intro W f hW hE h0 K hK
    have e34 : f 34 = _ := hE 0 34 _ rfl (by kernel_rfl)
    clear hE h0
    refine yes_of (want_free rfl) ?_
    go_simp
    refine (HPq.out W hW).mono ?_
    rintro e w1' ⟨rfl, g'⟩
    exact ⟨_, rfl, hK _ _ g' rfl⟩
  -- 4: law.go:34 assign
  apply told_is
  · intro W f hW hE h0 K hK
    have e33 : f 33 = _ := hE 2 33 _ rfl (by kernel_rfl)
    clear hE h0
    refine yes_of (want_free rfl) ?_
    go_simp; exact hK _ _ (gb_refl _ _) rfl
  -- 5: law.go:34 assign
  apply told_is
  · intro W f hW hE h0 K hK
    have e35 : f 35 = _ := hE 1 35 _ rfl (by kernel_rfl)
    clear hE h0
    refine yes_of (want_free rfl) ?_
    go_simp; exact hK _ _ (gb_refl _ _) rfl
  intro W f hW hA
  simp only [lexIn, Act.put, List.setIfInBounds_toArray, List.set_cons_zero, List.set_cons_succ]
  have e13 : f 13 = _ := hA 1 (some 13) _ rfl
  rw [e13]
  have e14 : f 14 = _ := hA 0 (some 14) _ rfl
  rw [e14]
  clear hA
  go_upto_region 5 with fail
  refine Td.named (fun W' => W4.grownBy W' none) hW ?_
  clear hW
  rintro W5 k5
  have HGW5 := Lib.hid k5
  clear k5
  go_wp2_with fail
  refine (getS_any P W5 HPsh.out (HT.out.keep (gb_none HG4.out HGW5.out) (by simp))).mono ?_
  rintro e v1 ⟨hres, k1⟩
  rcases hres with ⟨u, A6, n6, c6, B6, m6, d6, hp, rfl, hsl⟩ | ⟨hno, _⟩
  rotate_left
  · exact absurd HPis.out (hno s)
  obtain rfl := put_one HPis.out hp
  obtain ⟨b6, hb6⟩ : ∃ b6, v1.heap.size = b6 := ⟨_, rfl⟩
  have Hnm : Hid (W4.grownBy (v1.alloc (.cells #[.slice A6 n6 c6, .slice B6 m6 d6] 25)) none ∧ Row (v1.alloc (.cells #[.slice A6 n6 c6, .slice B6 m6 d6] 25)) b6 25 #[.slice A6 n6 c6, .slice B6 m6 d6] ∧ SL (v1.alloc (.cells #[.slice A6 n6 c6, .slice B6 m6 d6] 25)) A6 n6 B6 m6 s) := ⟨gb_alloc (gb_none HGW5.out k1) _, by rw [← hb6]; exact Row.new _ _ _, hsl.keep (gb_alloc (gb_refl _ _) _)⟩
  clear hp hsl k1
  go_upto_region 6 with fail
  refine Td.named (fun W' => W4.grownBy W' none ∧ Row W' b6 25 #[.slice A6 n6 c6, .slice B6 m6 d6] ∧ SL W' A6 n6 B6 m6 s) Hnm.out ?_
  clear Hnm hb6
  rintro W6 ⟨k1, k2, k3⟩
  have HGW6 := Lib.hid k1
  have x0 : W6.cell? ⟨b6, 0, none⟩ = some (.slice A6 n6 c6) := k2.at_ (i := 0) rfl
  have x1 : W6.cell? ⟨b6, 1, none⟩ = some (.slice B6 m6 d6) := k2.at_ (i := 1) rfl
  have H6 : Hid (n6 ≤ 320 ∧ m6 ≤ 320) := by have h1 := k3.1.1; have h2 := k3.2.1; have h3 := HLs.out; show _ ∧ _; omega
  have HS6 := Lib.hid k3
  obtain ⟨y0, y1⟩ := HXs.out W6 HGW6.out
  have p1 := list_ne (s := P) (by have := HPz.out; omega)
  have p2 : (P.toList == []) = false := str_some (by have := HPz.out; omega)
  have p3 := Hkpq.out
  clear k1 k2 k3
  go_wp2_with fail
  refine (refSameSt_any A6 B6 As Bs n6 c6 m6 d6 n1 cs m1 ds s s W6 HS6.out (HSs.out.keep HGW6.out) (by have := H6.out; omega) (by have := H6.out; omega) (by have := Hn.out; omega) (by have := Hn.out; omega)).mono ?_
  intro e v2 hh
  obtain ⟨he, k2⟩ := hh.yes rfl
  subst he
  have Hk2 := Lib.hid (gb_none HGW6.out k2)
  clear hh k2 x0 x1 y0 y1
  obtain ⟨y0, y1⟩ := HXs.out v2 Hk2.out
  obtain ⟨u0, u1⟩ := HXt.out v2 Hk2.out
  go_wp2_with fail
  refine (refSameSt_any As Bs At Bt n1 cs m1 ds n2 ct m2 dt s t v2 (HSs.out.keep Hk2.out) (HSt.out.keep Hk2.out) (by have := Hn.out; omega) (by have := Hn.out; omega) (by have := Hn.out; omega) (by have := Hn.out; omega)).mono ?_
  rintro e v3 ⟨⟨r, rfl, hr⟩, k3⟩
  obtain rfl : r = qe := by
    have h1 := Hqe.out
    cases r <;> cases qe <;> simp_all
  have hq3 := Hnq.out v3
  have Hk3 := Lib.hid (gb_none Hk2.out k3)
  clear k3 hr y0 y1 u0 u1
  go_upto_region 8 with fail
  refine Td.named (fun W' => W4.grownBy W' none) Hk3.out ?_
  clear Hk3 hq3 p1 p2 p3
  rintro W8 k5
  have HGW8 := Lib.hid k5
  clear k5
  obtain ⟨K, hK, hK2⟩ : ∃ K : Nat, a2 % (P.size : Int) = (K : Int) ∧ K < P.size := by
    have h0 := HPz.out
    have h1 := Int.emod_nonneg a2 (show (P.size : Int) ≠ 0 by omega)
    have h2 := Int.emod_lt_of_pos a2 (show (0 : Int) < (P.size : Int) by omega)
    exact ⟨(a2 % (P.size : Int)).toNat, by omega, by omega⟩
  obtain ⟨y, hy, hy2⟩ : ∃ y : Nat, a3 % (P.size : Int) = (y : Int) ∧ y < P.size := by
    have h0 := HPz.out
    have h1 := Int.emod_nonneg a3 (show (P.size : Int) ≠ 0 by omega)
    have h2 := Int.emod_lt_of_pos a3 (show (0 : Int) < (P.size : Int) by omega)
    exact ⟨(a3 % (P.size : Int)).toNat, by omega, by omega⟩
  have Hy2 := Lib.hid hy2
  have HyT : Hid (IntKind.i64.wrap a3 = a3 ∧ a3.tmod (P.size : Int) = (y : Int) ∧ IntKind.i64.wrap (y : Int) = (y : Int) ∧ (y : Int) < (P.size : Int)) := ⟨by rw [IntKind.wrap_i64]; have := Hb.out; omega, by rw [Int.tmod_eq_emod_of_nonneg Hb.out.2.2.1, hy], by rw [IntKind.wrap_i64]; have := HPsz.out; omega, by omega⟩
  have HNc : Hid (∀ u, ¬ IsPut (P.extract 0 K).data.toList u) := fun u => by
    have h1 : (P.extract 0 K).data.toList = (stW s).enc.take K := by
      rw [ByteArray.data_extract, Array.toList_extract, List.extract_eq_take_drop, List.drop_zero, HPd.out]; rfl
    rw [h1]
    exact put_cut HPs.out (by rw [← HPd.out, data_len]; exact hK2)
  have HSc : Hid ((P.extract 0 K).data.toList.length ≤ 1099511627776) := by show _ ≤ _; rw [data_len, ByteArray.size_extract]; have := HPsz.out; omega
  have HNm : Hid (∀ u, ¬ IsPut (P ++ ⟨#[0]⟩).data.toList u) := fun u => by
    rw [ByteArray.data_append, Array.toList_append, HPd.out]
    exact put_longer HPs.out (by simp)
  have HSm : Hid ((P ++ ⟨#[0]⟩).data.toList.length ≤ 1099511627776) := by show _ ≤ _; rw [data_len, ByteArray.size_append]; have := HPsz.out; show _ + 1 ≤ _; omega
  have t1 : IntKind.i64.wrap a2 = a2 := by rw [IntKind.wrap_i64]; have := Hb.out; omega
  have t2 : a2.tmod (P.size : Int) = (K : Int) := by rw [Int.tmod_eq_emod_of_nonneg Hb.out.1, hK]
  have t3 : ¬ P.size = 0 := by have := HPz.out; omega
  have t4 : IntKind.i64.wrap (K : Int) = (K : Int) := by rw [IntKind.wrap_i64]; have := HPsz.out; omega
  have t5 : K ≤ P.size := by omega
  have t6 : (K : Int) ≤ (P.size : Int) := by omega
  clear hK hK2 hy hy2
  go_wp2_with fail
  refine (getS_any (P.extract 0 K) W8 HSc.out (HT.out.keep (gb_none HG4.out HGW8.out) (by simp))).mono ?_
  rintro e v1 ⟨hres, k1⟩
  rcases hres with ⟨u, _, _, _, _, _, _, hp, _⟩ | ⟨_, rfl⟩
  · exact absurd hp (HNc.out u)
  have Hk1 := Lib.hid (gb_none HGW8.out k1)
  clear k1
  go_upto_region 9 with fail
  refine Td.named (fun W' => W4.grownBy W' none) (gb_alloc Hk1.out _) ?_
  clear Hk1
  rintro W9 k2
  have HGW9 := Lib.hid k2
  clear k2
  clear t1 t2 t4 t5 t6
  have hcat : ¬ 9223372036854775807 < P.size + (⟨#[0]⟩ : ByteArray).size := by
    have h1 : (⟨#[0]⟩ : ByteArray).size = 1 := rfl
    have := HPsz.out
    omega
  go_wp2_with fail
  refine (getS_any _ W9 (by exact HSm.out) (HT.out.keep (gb_none HG4.out HGW9.out) (by simp))).mono ?_
  rintro e v1 ⟨hres, k1⟩
  rcases hres with ⟨u, _, _, _, _, _, _, hp, _⟩ | ⟨_, rfl⟩
  · exact absurd hp (by exact HNm.out u)
  have Hk1 := Lib.hid (gb_none HGW9.out k1)
  clear k1
  go_upto_region 10 with fail
  refine Td.named (fun W' => W4.grownBy W' none) (gb_alloc Hk1.out _) ?_
  clear Hk1
  rintro W10 k2
  have HGW10 := Lib.hid k2
  clear k2
  clear hcat
  have hcv := run_bytes_of_string (P := Tryz.prog) W10 9 36 5 P Tryz.underlying9 Tryz.underlying36 Tryz.underlying5
  have r0 : RowF (W10.drew.alloc (.cells (bytesRow P (grownCap W10 P.size 0 5)) 5 ((bytesRow P (grownCap W10 P.size 0 5)).size, (bytesRow P (grownCap W10 P.size 0 5)).size + 1))) W10.heap.size 5 (bytesRow P (grownCap W10 P.size 0 5)) := ⟨_, Nat.le_refl _, heap_alloc_new W10.drew _⟩
  have g0 : W10.grownBy (W10.drew.alloc (.cells (bytesRow P (grownCap W10 P.size 0 5)) 5 ((bytesRow P (grownCap W10 P.size 0 5)).size, (bytesRow P (grownCap W10 P.size 0 5)).size + 1))) none := gb_alloc (gb_drew (gb_refl _ _)) _
  have hC : ∀ i, i < P.size → (bytesRow P (grownCap W10 P.size 0 5))[i]? = some (w8 (P.data.toList.getD i 0)) := fun i hi => bytesRow_at2 P _ i hi
  have hCs := bytesRow_ge P (grownCap W10 P.size 0 5)
  generalize hW : W10.drew.alloc (.cells (bytesRow P (grownCap W10 P.size 0 5)) 5 ((bytesRow P (grownCap W10 P.size 0 5)).size, (bytesRow P (grownCap W10 P.size 0 5)).size + 1)) = W11 at *
  generalize bytesRow P (grownCap W10 P.size 0 5) = CC at *
  generalize grownCap W10 P.size 0 5 = cap at *
  clear hW
  obtain ⟨bc, hbc⟩ : ∃ bc, W10.heap.size = bc := ⟨_, rfl⟩
  rw [hbc] at r0 hcv
  have Hbc : Hid (W10.heap.size = bc) := hbc
  have HC := Lib.hid hC
  have Hr0 := Lib.hid r0
  have Hg0 := Lib.hid g0
  have HCs := Lib.hid hCs
  clear hbc hC r0 g0 hCs
  go_upto_region 11 with fail
  clear hcv
  obtain ⟨x0, Hx0⟩ : ∃ x0, Hid (x0 = P.data.toList.getD y 0) := ⟨_, rfl⟩
  have cx : W11.cell? ⟨bc, y, none⟩ = some (.int .u8 (x0.toNat : Int)) := by rw [Hx0.out]; exact Hr0.out.at_ (HC.out y Hy2.out)
  have hfz : W11.frozen? ⟨bc, y, none⟩ = false := Hr0.out.free (by have := HCs.out; have := Hy2.out; omega)
  obtain ⟨t1, t2, t4, t5⟩ := HyT.out
  have hy2 := Hy2.out
  go_upto_region 12 with fail
  clear t1 t2 t4 t5 cx hfz hy2
  obtain ⟨T, HTT⟩ : ∃ T : ByteArray, Hid (T = ⟨(P.data.toList.set y (P.data.toList.getD y 0 ^^^ m)).toArray⟩) := ⟨_, rfl⟩
  have hsame : w8 (P.data.toList.getD y 0 ^^^ m) = .int .u8 ((x0.toNat ^^^ m.toNat : Nat) : Int) := by rw [Hx0.out, ← UInt8.toNat_xor]; rfl
  have g0' := gb_set1 W11 bc y (.int .u8 ((x0.toNat ^^^ m.toNat : Nat) : Int))
  have r1 := Hr0.out.set_ y (.int .u8 ((x0.toNat ^^^ m.toNat : Nat) : Int))
  have hstr : (convert 36 9 (.slice (some ⟨bc, 0, none⟩) P.size cap)).run Tryz.prog (W11.setCell ⟨bc, y, none⟩ (.int .u8 ((x0.toNat ^^^ m.toNat : Nat) : Int))) = .ok (.string T) (W11.setCell ⟨bc, y, none⟩ (.int .u8 ((x0.toNat ^^^ m.toNat : Nat) : Int))) := by
    rw [HTT.out]
    refine rowF_text r1 (by rw [List.length_set]; simp) (fun i hi => ?_) cap
    rw [Array.getElem?_setIfInBounds]
    by_cases hiy : y = i
    · subst hiy
      rw [if_pos rfl, if_pos (by have := HCs.out; omega), ← hsame, set_get _ _ _ (by simpa using hi)]
    · rw [if_neg hiy, HC.out i hi, List.getD_eq_getElem?_getD, List.getD_eq_getElem?_getD, List.getElem?_set_ne hiy]
  have HTne : Hid (T.data.toList ≠ (stW s).enc) := fun e => by
    have hyl : y < P.data.toList.length := by simpa using Hy2.out
    rw [HTT.out, ← HPd.out] at e
    exact Hm.out (same_set _ y hyl m (by simpa using e))
  have HlT : Hid (T.data.toList.length ≤ 1099511627776) := by show _ ≤ _; rw [HTT.out]; simp; have := HPsz.out; omega
  have HG12 : Hid (W4.grownBy (W11.setCell ⟨bc, y, none⟩ (.int .u8 ((x0.toNat ^^^ m.toNat : Nat) : Int))) none) := gb_none HGW10.out (gb_new Hg0.out g0' (Nat.le_of_eq Hbc.out))
  clear hsame g0' r1
  go_wp2_with fail
  refine (getS_any T _ HlT.out (HT.out.keep (gb_none HG4.out HG12.out) (by simp))).mono ?_
  rintro e v1 ⟨hres, k1⟩
  have Hk1 := Lib.hid (gb_none HG12.out k1)
  clear k1 hstr
  rcases hres with ⟨u, A7, n7, c7, B7, m7, d7, hp, rfl, hsl⟩ | ⟨_, rfl⟩
  · have hne : u ≠ s := put_other HTne.out hp
    have hum := hp.1
    have hu3 : u.seen.length ≤ 65536 ∧ u.facts.length ≤ 400 := ⟨hum.2, hum.1.2.1⟩
    have HS7 := Lib.hid hsl
    have Hun := Lib.hid hne
    have Hum := Lib.hid hum
    have Hu3 : Hid (n7 ≤ 65536 ∧ m7 ≤ 400) := by have h1 := hsl.1.1; have h2 := hsl.2.1; show _ ∧ _; omega
    obtain ⟨b7, hb7⟩ : ∃ b7, v1.heap.size = b7 := ⟨_, rfl⟩
    have Hnm : Hid (W4.grownBy (v1.alloc (.cells #[.slice A7 n7 c7, .slice B7 m7 d7] 25)) none ∧ Row (v1.alloc (.cells #[.slice A7 n7 c7, .slice B7 m7 d7] 25)) b7 25 #[.slice A7 n7 c7, .slice B7 m7 d7] ∧ SL (v1.alloc (.cells #[.slice A7 n7 c7, .slice B7 m7 d7] 25)) A7 n7 B7 m7 u) := ⟨gb_alloc Hk1.out _, by rw [← hb7]; exact Row.new _ _ _, hsl.keep (gb_alloc (gb_refl _ _) _)⟩
    clear hp hsl hne hum hu3
    go_upto_region 13 with fail
    refine Td.named (fun W' => W4.grownBy W' none ∧ Row W' b7 25 #[.slice A7 n7 c7, .slice B7 m7 d7] ∧ SL W' A7 n7 B7 m7 u) Hnm.out ?_
    clear Hnm hb7
    rintro W13 ⟨k1, k2, k3⟩
    have HG13 := Lib.hid k1
    have HR13 := Lib.hid k2
    have HS13 := Lib.hid k3
    have x0' : W13.cell? ⟨b7, 0, none⟩ = some (.slice A7 n7 c7) := k2.at_ (i := 0) rfl
    have x1' : W13.cell? ⟨b7, 1, none⟩ = some (.slice B7 m7 d7) := k2.at_ (i := 1) rfl
    obtain ⟨y0, y1⟩ := HXs.out W13 HG13.out
    clear k1 k2 k3
    go_wp2_with fail
    refine (refSameSt_any A7 B7 As Bs n7 c7 m7 d7 n1 cs m1 ds u s W13 HS13.out (HSs.out.keep HG13.out) (by have := Hu3.out; omega) (by have := Hu3.out; omega) (by have := Hn.out; omega) (by have := Hn.out; omega)).mono ?_
    intro e v2 hh
    obtain ⟨he, k2⟩ := hh.no Hun.out
    subst he
    have Hk2 := Lib.hid (gb_none HG13.out k2)
    have hr2 := HR13.out.kept k2 (by simp)
    have z0' : v2.cell? ⟨b7, 0, none⟩ = some (.slice A7 n7 c7) := hr2.at_ (i := 0) rfl
    have z1' : v2.cell? ⟨b7, 1, none⟩ = some (.slice B7 m7 d7) := hr2.at_ (i := 1) rfl
    have HS2 := Lib.hid (HS13.out.keep k2)
    clear hh k2 hr2 x0' x1' y0 y1
    go_wp2_with fail
    refine (refMayS_any A7 B7 n7 c7 m7 d7 u v2 HS2.out (by have := Hu3.out; omega) (by have := Hu3.out; omega)).mono ?_
    intro e v3 hh
    obtain ⟨he, k3⟩ := hh.yes Hum.out.1
    subst he
    have Hk3 := Lib.hid (gb_none Hk2.out k3)
    clear hh k3 z0' z1'
    go_wp2_with fail
    refine (HAw.out _ (gb_none HG4.out Hk3.out)).mono ?_
    rintro e v9 ⟨rfl, k9⟩
    go_wp2_with fail
    go_ret
    exact ⟨rfl, gb_below (gb_none (gb_none HG4.out Hk3.out) k9) (Nat.le_refl _)⟩
  · go_wp2_with fail
    refine (HAw.out _ (gb_none HG4.out (gb_alloc Hk1.out (.cells #[.slice none 0 0, .slice none 0 0] 25)))).mono ?_
    rintro e v9 ⟨rfl, k9⟩
    go_wp2_with fail
    go_ret
    exact ⟨rfl, gb_below (gb_none (gb_none HG4.out (gb_alloc Hk1.out (.cells #[.slice none 0 0, .slice none 0 0] 25))) k9) (Nat.le_refl _)⟩

theorem et : Tryz.prog.globalNamed "errors.errorType" = some 0 := by kernel_rfl
theorem rt : (Tryz.prog.cutTypes.find? (·.1 == "internal/reflectlite.rtype")).map (·.2) = some 155 := by kernel_rfl
theorem one_error : ((List.range 218).filter fun t => Tryz.prog.rowNamed t [101, 114, 114, 111, 114]) = [53] := by kernel_rfl
theorem how_many : Tryz.prog.types.size = 218 := by kernel_rfl
theorem handle : typeHandle Tryz.prog 53 = .pointer (some ⟨2, 53, none⟩) := by kernel_rfl
theorem errT {W : World} (h : laidMetH Tryz.prog Rows.snapBackRow.laid W) : W.cell? ⟨0, 0, none⟩ = some (.iface 155 (.agg #[.pointer (some ⟨2, 53, none⟩)])) := by
  have hm : ("errors.errorType", Rows.laid_errors_errorType) ∈ (Rows.snapBackRow.laid.filter fun x => x.2.handleName?.isSome) := by simp [Rows.snapBackRow, List.filter, DataW.handleName?, Rows.laid_errors_errorType]
  obtain ⟨n, u, t, hn, hu, ht, hr, hc⟩ := (laidMetH_iff.1 h).2 _ hm
  obtain rfl := Option.some.inj hn
  obtain rfl := Option.some.inj (rt.symm.trans hu)
  have hin : t ∈ [53] := by
    rw [← one_error]
    exact List.mem_filter.2 ⟨List.mem_range.2 (how_many ▸ ht), hr⟩
  obtain rfl := List.mem_singleton.1 hin
  rw [handle] at hc
  have := World.var?_cell et hc 0
  simpa using this

set_option maxRecDepth 100000 in
theorem contract (H : Type) (enc : TypeId × Value → H) (W : World) (base : Nat) (args : Array Value) (ds gs : List (DataW H)) (before : List MemPlace)
    (hval0 : ∀ (j : Nat) t v, Tryz.f4.params[j]? = some t → args[j]? = some v → Value.okWide Tryz.prog W .any base t v)
    (hW : DataW.Whole enc Tryz.prog Tryz.f4.params.toList Rows.snapBackSpec.vars false W args.toList ds gs before) (hL : laidMetH Tryz.prog Rows.snapBackRow.laid W) :
    Calls Tryz.prog 4 args W fun e W' => ∃ v, e = .returned v ∧ Rows.snapBackSpec.post enc Tryz.prog Tryz.f4 false true false false W args v W' := by
  have hval : ∀ (j : Nat) t v, Tryz.f4.params[j]? = some t → args[j]? = some v → Value.okWide Tryz.prog W .any base t v := hval0
  have hW' := hW
  obtain ⟨p, q, hA0, hV, rfl, hfz, hnd⟩ := hW
  have hA : DataW.TrodAll enc Tryz.prog W 0 (fun _ => true) true Tryz.f4.params.toList args.toList ds p := hA0
  rw [Tryz.params4] at hA hval
  obtain ⟨v0, vs0, d0, ds0, p0, q0, hargs, rfl, rfl, h0, r0⟩ := trodAll_cons hA
  obtain ⟨v1, vs1, d1, ds1, p1, q1, rfl, rfl, rfl, h1, r1⟩ := trodAll_cons r0
  obtain ⟨v2, vs2, d2, ds2, p2, q2, rfl, rfl, rfl, h2, r2⟩ := trodAll_cons r1
  obtain ⟨v3, vs3, d3, ds3, p3, q3, rfl, rfl, rfl, h3, r3⟩ := trodAll_cons r2
  obtain ⟨v4, vs4, d4, ds4, p4, q4, rfl, rfl, rfl, h4, r4⟩ := trodAll_cons r3
  obtain ⟨rfl, rfl, rfl⟩ := trodAll_nil r4
  obtain rfl : args = #[v0, v1, v2, v3, v4] := by cases args; simp_all
  obtain ⟨rfl, rfl⟩ := trodVars_none hV
  have k0 := h0
  have lt0 : ∀ x ∈ p0, x.block < W.heap.size := by obtain ⟨m, hm⟩ := k0; exact DataW.trod_lt m _ _ _ hm
  obtain ⟨a0, len0, cap0, rfl⟩ := okWide_slice Tryz.underlying36 (hval 0 36 v0 rfl rfl)
  obtain ⟨z0, w0⟩ : ∃ zs, IsRow .u8 W a0 len0 cap0 zs := by
    obtain ⟨fuel, hf⟩ := h0
    rcases open_ints Tryz.underlying36 Tryz.underlying5 (by kernel_rfl) hf with ⟨hcs, _⟩ | ⟨x, l, c, zs, hcs, _, hl, hm, hz, _, hcell, hwz⟩
    · simp [Value.cells] at hcs
      obtain ⟨rfl, rfl, rfl⟩ := hcs
      exact ⟨[], .inl ⟨rfl, rfl, rfl, rfl⟩⟩
    · simp [Value.cells] at hcs
      obtain ⟨rfl, rfl, rfl⟩ := hcs
      exact ⟨zs, .inr ⟨_, rfl, hl, hm, by simpa using hz, hcell, hwz⟩⟩
  have k1 := h1
  have lt1 : ∀ x ∈ p1, x.block < W.heap.size := by obtain ⟨m, hm⟩ := k1; exact DataW.trod_lt m _ _ _ hm
  obtain ⟨a1, len1, cap1, rfl⟩ := okWide_slice Tryz.underlying36 (hval 1 36 v1 rfl rfl)
  obtain ⟨z1, w1⟩ : ∃ zs, IsRow .u8 W a1 len1 cap1 zs := by
    obtain ⟨fuel, hf⟩ := h1
    rcases open_ints Tryz.underlying36 Tryz.underlying5 (by kernel_rfl) hf with ⟨hcs, _⟩ | ⟨x, l, c, zs, hcs, _, hl, hm, hz, _, hcell, hwz⟩
    · simp [Value.cells] at hcs
      obtain ⟨rfl, rfl, rfl⟩ := hcs
      exact ⟨[], .inl ⟨rfl, rfl, rfl, rfl⟩⟩
    · simp [Value.cells] at hcs
      obtain ⟨rfl, rfl, rfl⟩ := hcs
      exact ⟨zs, .inr ⟨_, rfl, hl, hm, by simpa using hz, hcell, hwz⟩⟩
  obtain ⟨a2, rfl, rfl, rfl, w2⟩ := open_int Tryz.underlying37 (hval 2 37 v2 rfl rfl) h2
  obtain ⟨a3, rfl, rfl, rfl, w3⟩ := open_int Tryz.underlying37 (hval 3 37 v3 rfl rfl) h3
  obtain ⟨a4, rfl, rfl, rfl, w4⟩ := open_int Tryz.underlying5 (hval 4 5 v4 rfl rfl) h4
  clear hA0 hval0
  refine (walk a0 len0 cap0 z0 a1 len1 cap1 z1 a2 a3 a4 W w0 w1 w2 w3 w4 (errT hL)).mono fun e W' ⟨he, bel⟩ => ?_
  subst he
  exact ⟨_, rfl, _, _, _, [], _, [], hW', trodAll_mk1 (shut_bool Tryz.underlying4 _), (trodAll_cons_mk (Below.trod laidOut (by kernel_rfl) (of_decide_eq_true (by kernel_rfl)) k0 bel lt0) (trodAll_cons_mk (Below.trod laidOut (by kernel_rfl) (of_decide_eq_true (by kernel_rfl)) k1 bel lt1) (trodAll_cons_mk (shut_int Tryz.underlying37 w2) (trodAll_cons_mk (shut_int Tryz.underlying37 w3) (trodAll_cons_mk (shut_int Tryz.underlying5 w4) trodAll_mk0))))), rfl, bel.frame _, fun h => by cases h⟩

def lay (cs : Array Value) : Obj → Obj
  | .cells _ t frozen => .cells cs t frozen
  | o => o

noncomputable def laidWorld (os : Os) : World :=
  { World.holding Tryz.prog os ⟨#[], #[], []⟩ with heap := ((World.holding Tryz.prog os ⟨#[], #[], []⟩).heap).modify 0 (lay #[.iface 155 (.agg #[.pointer (some ⟨2, 53, none⟩)])]) }
theorem laid_met (os : Os) : laidMetH Tryz.prog Rows.snapBackRow.laid ((laidWorld os).forCall (fun _ _ => 0) ⟨#[], #[.slice none 0 0, .slice none 0 0, .int .u16 0, .int .u16 0, .int .u8 0], []⟩).memory :=
  laidMetH_of_parts (laidMet_nil _ _) (by kernel_rfl)
theorem reads (os : Os) {H : Type} (enc : TypeId × Value → H) : ∃ places, DataW.whole enc Tryz.prog ((laidWorld os).forCall (fun _ _ => 0) ⟨#[], #[.slice none 0 0, .slice none 0 0, .int .u16 0, .int .u16 0, .int .u8 0], []⟩).memory Tryz.f4.params.toList Rows.snapBackSpec.vars false (show Array Value from #[.slice none 0 0, .slice none 0 0, .int .u16 0, .int .u16 0, .int .u8 0]).toList 8 = some ([.nil, .nil, .lit (.int .u16 0), .lit (.int .u16 0), .lit (.int .u8 0)], [], places) :=
  ⟨[], by kernel_rfl⟩

set_option maxRecDepth 100000 in
theorem lifted (os : Os) (started : os.Started) (H : Type) (enc : TypeId × Value → H) (F : Stop.Interp) :
    ReturnsInHanded {} Tryz.checked os 4 .any ((OpenSpec.ofChange Rows.snapBackSpec).preRow enc Tryz.prog Tryz.f4 Rows.snapBackRow.domain false Rows.snapBackRow.laid) (((OpenSpec.ofChange Rows.snapBackSpec).at F).post enc Tryz.prog Tryz.f4 false true false false) := by
  obtain ⟨places, hx⟩ := reads os enc
  refine returnsInHanded_of_row (C := Tryz.checked) (s := OpenSpec.ofChange Rows.snapBackSpec) own started (by kernel_rfl) Tryz.func4
    (witness_row_at (enc := enc) (C := Tryz.checked) false (laidWorld os) #[.slice none 0 0, .slice none 0 0, .int .u16 0, .int .u16 0, .int .u8 0] rfl (by kernel_rfl) (by kernel_rfl) (by kernel_rfl)
      (OpenSpec.preRow_of_cond 8 hx (by kernel_rfl) (fun k hk => by cases hk) (by kernel_rfl) (laid_met os))) ?_
  intro W base args ds gs before hval hW _ _ _ hL _ _
  exact contract H enc W base args ds gs before hval hW hL

theorem said : Rows.SnapBackSaid :=
  OpenClaim.holds_of_cond 4 Tryz.f4 rfl rfl rfl rfl rfl rfl rfl ⟨rfl, rfl, rfl, rfl, rfl⟩ rfl rfl rfl rfl rfl (by kernel_rfl) Tryz.func4 (by kernel_rfl)
    (of_decide_eq_true (by kernel_rfl)) (by unfold Func.isWrapper; first | (rw [if_pos (by decide +kernel)]; kernel_rfl) | (rw [if_neg (by decide +kernel)]; exact ⟨rfl, rfl⟩))
    (fun os started H enc _ F => by rw [OpenClaim.pre_eq_preRow]; exact lifted os started H enc F)

theorem plain (f : FuncId) (fn : Func) (hf : Tryz.pinned.checked.prog.funcNamed "deaddrop/deaddroplaw13.SnapBack" = some f) (hfn : Tryz.pinned.checked.prog.funcs[f]? = some fn) :
    true = Tryz.pinned.checked.prog.looks [] ∧ ∀ (j : Nat) t, fn.params[j]? = some t → Tryz.pinned.checked.prog.wantsStandIn t = false := by
  obtain rfl : f = 4 := Option.some.inj ((show Tryz.prog.funcNamed "deaddrop/deaddroplaw13.SnapBack" = some 4 by kernel_rfl).symm.trans hf) |>.symm
  obtain rfl : fn = Tryz.f4 := (Option.some.inj (Tryz.func4.symm.trans hfn)).symm
  refine ⟨by kernel_rfl, fun j t ht => ?_⟩
  have hall : (Tryz.f4.params.toList.all fun u => !Tryz.prog.wantsStandIn u) = true := by kernel_rfl
  have hm : t ∈ Tryz.f4.params.toList := by simpa using Array.mem_of_getElem? ht
  exact (show Tryz.prog.wantsStandIn t = false by simpa using List.all_eq_true.1 hall t hm)

theorem card : Rows.SnapBackCardSaid :=
  Claim7.holds_tied_plain_at .later [] _ _ _ _ said (fun _ h => by cases h) (by kernel_rfl) (fun _ h => by cases h) snapBack_row_tie rfl ⟨rfl, rfl⟩ (by kernel_rfl) rfl plain (by kernel_rfl)
#print axioms card
end Go.Proofs.YthijiefopcnclaaGreatDoor.snapBack
