/- errors.Is at a length's error. strings.Builder: WriteString at a builder that is used. The document's Derive: keys by keys. hmac.expanded: so many bytes of the sums side by side. hmac's errors within: what they are, what errors.Is says of them. hmac.Derive at lengths that there are not. -/
import Derived.Test.YtpcjbjpofcdjeaaGreatDoorShelf
import Derived.Test.YtpcjbjpofcdjeaaGreatDoorHmq
import Derived.LaidEql
import Derived.Stop.Asserts
import Derived.RowKitTokens
set_option maxHeartbeats 4000000
set_option maxRecDepth 100000
namespace Go.Proofs.YtpcjbjpofcdjeaaGreatDoor.Hh
open Go.RowKit Wd Mm
theorem typeOf_err (v : Value) (w : World) : (Extern.ReflectliteType.typeOf #[.iface 251 v]).run Tryz.prog w = .ok (.iface 180 (.agg #[.pointer (some ⟨22, 251, none⟩)])) w := by kernel_rfl
def compX : Array Value → Sem Value := Extern.ReflectliteType.method fun t => do Extern.Rtype.noPackHeld "Comparable" t; pure (.bool (← typeInfo t).comparable)
theorem comparable_err (w : World) : (compX #[.agg #[.pointer (some ⟨22, 251, none⟩)]]).run Tryz.prog w = .ok (.bool true) w := by kernel_rfl
theorem method_comp (v : Value) (w : World) : (Go.method 381 180 v "Comparable").run Tryz.prog w = .ok (222, v) w := by kernel_rfl
theorem method_unwrap (v : Value) (w : World) : (Go.method 381 225 v "Unwrap").run Tryz.prog w = .ok (234, v) w := by kernel_rfl
theorem comp_err : (Tryz.prog.info? 251).map (·.comparable) = some true := by kernel_rfl
theorem size_err : (Tryz.prog.info? 269).map (·.size) = some 1 := by kernel_rfl
theorem noIs_err (v : Value) (xT : TypeId) (w : World) : (Instr.typeAssert (.iface 251 v) xT 234 true).run Tryz.prog w = .ok (.tuple #[.nilIface, .bool false]) w := run_typeAssert_lacksB Tryz.underlying234 (by kernel_rfl) (by kernel_rfl) v xT w
theorem noUnwrap_err (v : Value) (xT : TypeId) (w : World) : (Instr.typeAssert (.iface 251 v) xT 188 true).run Tryz.prog w = .ok (.tuple #[.nilIface, .bool false]) w := run_typeAssert_lacksB Tryz.underlying188 (by kernel_rfl) (by kernel_rfl) v xT w
theorem noUnwraps_err (v : Value) (xT : TypeId) (w : World) : (Instr.typeAssert (.iface 251 v) xT 190 true).run Tryz.prog w = .ok (.tuple #[.nilIface, .bool false]) w := run_typeAssert_lacksB Tryz.underlying190 (by kernel_rfl) (by kernel_rfl) v xT w
theorem noIs_len (v : Value) (xT : TypeId) (w : World) : (Instr.typeAssert (.iface 225 v) xT 234 true).run Tryz.prog w = .ok (.tuple #[.nilIface, .bool false]) w := run_typeAssert_lacksB Tryz.underlying234 (by kernel_rfl) (by kernel_rfl) v xT w
theorem hasUnwrap_len (v : Value) (xT : TypeId) (w : World) : (Instr.typeAssert (.iface 225 v) xT 188 true).run Tryz.prog w = .ok (.tuple #[.iface 225 v, .bool true]) w := run_typeAssert_hasB Tryz.underlying188 (by kernel_rfl) v xT w
theorem unwrap_any (n : Int) (E : Value) (w : World) (hE : ∃ t p, E = .iface t (.pointer (some p))) : Calls Tryz.prog 234 #[.agg #[.int .i64 n, E]] w fun e w' => e = .returned E ∧ Gn w w' := by
 obtain ⟨t, p, rfl⟩ := hE
 go_enter Tryz.func234, Tryz.ntmps234
 go_wp2_with fail
 go_ret
 exact ⟨rfl, gb_alloc (gb_refl _ _) _⟩
theorem loop_same (n : Int) (b : Addr) (w : World) :
  Calls Tryz.prog 162 #[.iface 225 (.agg #[.int .i64 n, .iface 251 (.pointer (some b))]), .iface 251 (.pointer (some b)), .bool true] w fun e w' => e = .returned (.bool true) ∧ Gn w w' := by
 obtain ⟨i, hi, hcmp⟩ := Option.map_eq_some_iff.1 comp_err
 obtain ⟨j, hj, hjs⟩ := Option.map_eq_some_iff.1 size_err
 have nW := noIs_len
 have uW := hasUnwrap_len
 have mU := method_unwrap
 have hty := run_eql_iface_types (P := Tryz.prog) 225 251 (.agg #[.int .i64 n, .iface 251 (.pointer (some b))]) (.pointer (some b)) Tryz.underlying72 (by decide) w
 go_enter Tryz.func162, Tryz.ntmps162
 go_wp2_with fail
 refine wp_loop_rounds 2 ?_
 rw [rounds_succ]
 go_wp2_with fail
 refine (unwrap_any n _ _ ⟨_, _, rfl⟩).mono ?_
 rintro e w1 ⟨rfl, g1⟩
 have heq := run_eql_iface_ptr_same (P := Tryz.prog) w1 b Tryz.underlying72 Tryz.underlying251 hi hcmp hj
 go_wp2_with fail
 rw [rounds_succ]
 go_wp2_with fail
 go_ret
 exact ⟨rfl, g1⟩
theorem loop_other (n : Int) (a b : Addr) (ca cb : Array Value) (ta tb : TypeId) (w : World) (hne : a ≠ b) (ha : w.heap[a.block]? = some (.cells ca ta (0, 0))) (hb : w.heap[b.block]? = some (.cells cb tb (0, 0))) :
  Calls Tryz.prog 162 #[.iface 225 (.agg #[.int .i64 n, .iface 251 (.pointer (some a))]), .iface 251 (.pointer (some b)), .bool true] w fun e w' => e = .returned (.bool false) ∧ Gn w w' := by
 obtain ⟨i, hi, hcmp⟩ := Option.map_eq_some_iff.1 comp_err
 obtain ⟨j, hj, hjs⟩ := Option.map_eq_some_iff.1 size_err
 have nE := noIs_err
 have uE := noUnwrap_err
 have vE := noUnwraps_err
 have nW := noIs_len
 have uW := hasUnwrap_len
 have mU := method_unwrap
 have hty := run_eql_iface_types (P := Tryz.prog) 225 251 (.agg #[.int .i64 n, .iface 251 (.pointer (some a))]) (.pointer (some b)) Tryz.underlying72 (by decide) w
 have Ha := qj ha
 have Hb := qj hb
 have Hne := qj hne
 clear ha hb hne
 go_enter Tryz.func162, Tryz.ntmps162
 go_wp2_with fail
 refine wp_loop_rounds 2 ?_
 rw [rounds_succ]
 go_wp2_with fail
 refine (unwrap_any n _ _ ⟨_, _, rfl⟩).mono ?_
 rintro e w1 ⟨rfl, g1⟩
 have heq := run_eql_iface_ptr_other (P := Tryz.prog) w1 Tryz.underlying72 Tryz.underlying251 hi hcmp hj (by rw [hjs]; decide) Hne.out ((g1.block _ (Array.getElem?_eq_some_iff.1 Ha.out).1 (by simp)).trans Ha.out) ((g1.block _ (Array.getElem?_eq_some_iff.1 Hb.out).1 (by simp)).trans Hb.out)
 go_wp2_with fail
 rw [rounds_succ]
 go_wp2_with fail
 go_ret
 exact ⟨rfl, g1⟩
end Go.Proofs.YtpcjbjpofcdjeaaGreatDoor.Hh
namespace Go.Proofs.YtpcjbjpofcdjeaaGreatDoor.Hh
open Go.RowKit Wd Mm
theorem check_used (b : Nat) (w : World) (h : w.cell? ⟨b, 0, none⟩ = some (.pointer (some ⟨b, 0, none⟩))) :
  Calls Tryz.prog 157 #[.pointer (some ⟨b, 0, none⟩)] w fun e w' => e = .returned (.tuple #[]) ∧ w = w' := by
 obtain ⟨j, hj, _⟩ := Option.map_eq_some_iff.1 (show (Tryz.prog.info? 168).map (·.size) = some 2 by kernel_rfl)
 go_enter Tryz.func157, Tryz.ntmps157
 go_wp2_with fail
 rw [Lib.run_neq_ptr_same w _ Tryz.underlying166 hj]
 go_wp2_with fail
 go_end0
 exact ⟨rfl, rfl⟩
theorem write_any (B b : Nat) (bs : List Value) (s : ByteArray) (w : World) (h : Lib.BuilderAt 168 5 B b (.pointer (some ⟨b, 0, none⟩)) bs w) (hlen : bs.length + s.size ≤ 140737488355328) (hBw : B ≤ w.heap.size) :
  Calls Tryz.prog 161 #[.pointer (some ⟨b, 0, none⟩), .string s] w fun e w' => e = .returned (.tuple #[.int .i64 s.size, .nilIface]) ∧ Lib.BuilderAt 168 5 B b (.pointer (some ⟨b, 0, none⟩)) (bs ++ Lib.strCells s) w' ∧ Below B w w' := by
 obtain ⟨hB, v, hb, hown, hne⟩ := h
 obtain ⟨i, hi, hz, hs1, hs2⟩ := info_parts byte_inf
 have hc0 : w.cell? ⟨b, 0, none⟩ = some (.pointer (some ⟨b, 0, none⟩)) := cell_of_row w b 0 _ _ _ hb
 have hc1 : w.cell? ⟨b, 1, none⟩ = some v := cell_of_row w b 1 _ _ _ hb
 obtain ⟨v', w', hrun, hown', hgrow, _⟩ := Lib.run_append_own_string (P := Tryz.prog) w B 54 9 54 5 i Tryz.underlying54 Tryz.underlying9 hi hz hs1 hs2 v bs.length bs hown s (by unfold maxLen; omega) hlen hBw
 obtain ⟨vA, vn, vc, rfl⟩ : ∃ A n c, v' = .slice A n c := by
  rcases hown'.2 with ⟨rfl, _⟩ | ⟨g, cap, cur, rfl, _⟩
  ·exact ⟨_, _, _, rfl⟩
  ·exact ⟨_, _, _, rfl⟩
 have hb' : w'.heap[b]? = some (.cells #[.pointer (some ⟨b, 0, none⟩), v] 168 (0, 0)) := (hgrow.block b (Array.getElem?_eq_some_iff.1 hb).1 (fun e => hne e.symm)).trans hb
 have hc1' : w'.cell? ⟨b, 1, none⟩ = some v := cell_of_row w' b 1 _ _ _ hb'
 have hf1' : w'.frozen? ⟨b, 1, none⟩ = false := frozen_of_row w' b 1 _ _ hb'
 have Hrun := qj hrun
 have Hb' := qj hb'
 have Hown' := qj hown'
 have Hgrow := qj hgrow
 have Hown := qj hown
 clear hrun hb' hown' hgrow hb hi hz hs1 hs2 hown
 go_enter Tryz.func161, Tryz.ntmps161
 go_wp2_with fail
 refine (check_used b _ hc0).mono ?_
 rintro e w1 ⟨rfl, rfl⟩
 go_wp2_with (at_builtin; refine Lib.wpList_append_run _ rfl (.tmp 12) (.tmp 13) 54 9 rfl _ _ rfl rfl _ _ Hrun.out ?_)
 go_ret2
 have hset := heap_setCell_same w' b 1 _ _ (.slice vA vn vc) Hb'.out
 have hgs := gb_set1 w' b 1 (.slice vA vn vc)
 have hne' : (Value.slice vA vn vc).ownBlock ≠ some b := by
  rcases Hown'.out.2 with ⟨hv, _⟩ | ⟨g, cap, cur, hv, _, hh, _⟩
  ·rw [hv]; simp [Value.ownBlock]
  ·rw [hv]
   intro e
   have e2 : g = b := Option.some.inj e
   subst e2
   have := (show w'.heap[g]? = some (.cells cur 5 (0, 0)) from hh).symm.trans Hb'.out
   injection this with this
   injection this with _ h2
   exact absurd h2 (by decide)
 refine ⟨rfl, ⟨hB, .slice vA vn vc, hset, ?_, hne'⟩, ?_⟩
 ·have hl : (bs ++ Lib.strCells s).length = bs.length + s.size := by simpa using Hown'.out.1
  rw [hl]
  exact Hown'.out.kept hgs (.inr hne')
 ·have hx : ∀ k, k < B → (w'.setCell ⟨b, 1, none⟩ (.slice vA vn vc)).heap[k]? = w.heap[k]? := fun k hk => by
   rw [hgs.block k (by have := Hgrow.out.size; omega) (fun e => by have := Option.some.inj e; omega)]
   exact Hgrow.out.block k (by omega) (fun e => by have := (Hown.out.lt k e.symm).1; omega)
  exact ⟨Hgrow.out.os, Hgrow.out.tape, Hgrow.out.output, Nat.le_trans Hgrow.out.size hgs.size, hx⟩
end Go.Proofs.YtpcjbjpofcdjeaaGreatDoor.Hh
namespace Go.Proofs.YtpcjbjpofcdjeaaGreatDoor.Hh
open Go.RowKit Wd Mm
def oneB (k : Nat) : ByteArray := ⟨#[UInt8.ofNat k]⟩
def tN (p info : ByteArray) : Nat → ByteArray
 | 0 => ⟨#[]⟩
 | k + 1 => macB p (tN p info k ++ info ++ oneB (k + 1))
def outN (p info : ByteArray) : Nat → ByteArray
 | 0 => ⟨#[]⟩
 | k + 1 => outN p info k ++ tN p info (k + 1)
def deriveB (salt key info : ByteArray) (n : Nat) : ByteArray := (outN (macB salt key) info ((n + 31) / 32)).extract 0 n
theorem tN_size (p info : ByteArray) (k : Nat) : (tN p info k).size ≤ 32 := by
 cases k with
 | zero => exact Nat.zero_le _
 | succ k => rw [tN, macB_size]; exact Nat.le_refl _
theorem outN_size (p info : ByteArray) (k : Nat) : (outN p info k).size = 32 * k := by
 induction k with
 | zero => rfl
 | succ k ih => rw [outN, ByteArray.size_append, ih, tN, macB_size]; omega
theorem one_text (W : World) (k : Nat) (h : k ≤ 255) : (convert 54 9 (.slice (some ⟨W.heap.size, 0, none⟩) 1 1)).run Tryz.prog (W.alloc (.cells #[.int .u8 (k : Int)] 5)) = .ok (.string (oneB k)) (W.alloc (.cells #[.int .u8 (k : Int)] 5)) := by
 have e : (#[Value.int .u8 (k : Int)] : Array Value) = ([UInt8.ofNat k].map w8).toArray := by
  simp only [List.map_cons, List.map_nil]
  unfold w8
  rw [UInt8.toNat_ofNat', Nat.mod_eq_of_lt (by omega)]
 rw [e]
 exact row_string (l := [UInt8.ofNat k]) (Row.new W 5 _) 1
theorem refDerive_any (salt key info : ByteArray) (n : Nat) (w : World) (hn : n ≤ 8160) (h1 : salt.size ≤ 1048576) (h2 : key.size ≤ 1048576) (h3 : info.size ≤ 1048576) :
  Calls Tryz.prog 57 #[.string salt, .string key, .string info, .int .i64 (n : Int)] w fun e w' => e = .returned (.string (deriveB salt key info n)) ∧ Gn w w' := by
 have t1 : decide ((n : Int) < 0) = false := dcF
 have t2 : decide ((8160 : Int) < (n : Int)) = false := dcF
 obtain ⟨p, Hp⟩ : ∃ p : ByteArray, Hid (p = macB salt key) := ⟨_, rfl⟩
 have hp : p.size ≤ 32 := by rw [Hp.out, macB_size]; exact Nat.le_refl _
 go_enter Tryz.func57, Tryz.ntmps57
 go_wp2_with fail
 refine (refMac_any salt key _ (by omega) (by omega)).mono ?_
 rintro e w1 ⟨rfl, g1⟩
 rw [← Hp.out]
 go_wp2_with fail
 go_loopw [12, 10, 11] (fun i vo vt wr => ∃ k : Nat, 32 * k < n + 32 ∧ i = .int .i64 ((k + 1 : Nat) : Int) ∧ vo = .string (outN p info k) ∧ vt = .string (tN p info k) ∧ Gn w wr) (fun i _ _ _ => 300 - (intOf i).toNat)
 case atStart => exact ⟨0, by omega, rfl, rfl, rfl, g1⟩
 case round =>
  clear g1
  obtain ⟨k, hk, rfl, rfl, rfl, hg⟩ := hrel
  have hos := outN_size p info k
  have hts := tN_size p info k
  have Hto := qj (show tN p info (k + 1) = macB p (tN p info k ++ info ++ oneB (k + 1)) ∧ outN p info (k + 1) = outN p info k ++ tN p info (k + 1) from ⟨rfl, rfl⟩)
  have Hfin := qj (show ∀ m, k = (m + 31) / 32 → (outN p info k).extract 0 m = deriveB salt key info m from fun m h => by rw [deriveB, ← Hp.out, h])
  obtain ⟨o, Ho⟩ : ∃ o, Hid (o = outN p info k) := ⟨_, rfl⟩
  obtain ⟨t, Ht⟩ : ∃ t, Hid (t = tN p info k) := ⟨_, rfl⟩
  rw [← Ho.out] at hos Hto Hfin ⊢
  rw [← Ht.out] at hts Hto ⊢
  have hos2 : o.size ≤ 8160 := by omega
  obtain ⟨j, Hj⟩ : ∃ j, Hid (j = k + 1) := ⟨_, rfl⟩
  rw [← Hj.out] at Hto ⊢
  have hj : j ≤ 256 := by have := Hj.out; omega
  by_cases hlt : o.size < n
  ·have d1 : decide (o.size < n) = true := decide_eq_true hlt
   have d2 : decide ((o.size : Int) < (n : Int)) = true := dcT
   have hj2 : j ≤ 255 := by have := Hj.out; omega
   have hj3 : (j : Int) ≤ 255 := by omega
   have hconv := one_text wr j hj2
   obtain ⟨b, Hb⟩ : ∃ b, Hid (b = oneB j) := ⟨_, rfl⟩
   rw [← Hb.out] at hconv Hto
   have hbs : b.size ≤ 1 := by rw [Hb.out]; exact Nat.le_refl _
   have hsm : (t ++ info ++ b).size ≤ 549755813888 := by rw [ByteArray.size_append, ByteArray.size_append]; omega
   have hti : (t ++ info).size ≤ 2000000 := by rw [ByteArray.size_append]; omega
   have Hos := qj hos
   clear hos
   go_wp2_with fail
   refine (refMac_any p (t ++ info ++ b) _ (by omega) hsm).mono ?_
   rintro e w2 ⟨rfl, g2⟩
   rw [← Hto.out.1]
   have hms : (tN p info j).size ≤ 32 := tN_size p info j
   obtain ⟨t2, Ht2⟩ : ∃ t, Hid (t = tN p info j) := ⟨_, rfl⟩
   rw [← Ht2.out] at hms Hto ⊢
   clear hconv
   go_wp2_with fail
   go_roundw
   case rel =>
    refine ⟨j, by have := Hj.out; have := Hos.out; omega, by go_num, ?_, ?_, gb_none (gb_alloc hg _) g2⟩
    ·rw [Hto.out.2]
    ·rw [Ht2.out]
   case measure => simp [intOf]; omega
  ·have d1 : decide (o.size < n) = false := decide_eq_false hlt
   have d2 : decide ((o.size : Int) < (n : Int)) = false := dcF
   have hno : n ≤ o.size := by omega
   have hf := Hfin.out n (by omega)
   have Hf := qj hf
   have Hos := qj hos
   clear hf hlt hos
   go_wp2_with fail
   go_ret
   exact ⟨by rw [← Hf.out]; rfl, hg⟩
end Go.Proofs.YtpcjbjpofcdjeaaGreatDoor.Hh
namespace Go.Proofs.YtpcjbjpofcdjeaaGreatDoor.Hh
open Go.RowKit Wd Mm
theorem new_b (w : World) : (w.alloc (.cells #[.pointer none, .slice none 0 0] 168)).heap[w.heap.size]? = some (.cells #[.pointer none, .slice none 0 0] 168 (0, 0)) := heap_alloc_new w _
def outL (p info : ByteArray) (n k : Nat) : List UInt8 := (outN p info k).data.toList.take n
theorem outL_len (p info : ByteArray) (n k : Nat) (h : 32 * k ≤ n) : (outL p info n k).length = 32 * k := by
 unfold outL
 rw [List.length_take, len_data, outN_size]; omega
theorem outL_more (p info : ByteArray) (n k m : Nat) (hm : m = min 32 (n - 32 * k)) : outL p info n (k + 1) = outL p info n k ++ ((tN p info (k + 1)).extract 0 m).data.toList := by
 unfold outL
 have hs : (tN p info (k + 1)).size = 32 := by rw [tN, macB_size]
 rw [outN, ByteArray.data_append, Array.toList_append, List.take_append, len_data, outN_size, ByteArray.data_extract, Array.toList_extract]
 congr 1
 subst hm
 simp only [List.extract_eq_take_drop, List.drop_zero, Nat.sub_zero]
 by_cases h1 : n - 32 * k ≤ 32
 ·rw [Nat.min_eq_right h1]
 ·rw [Nat.min_eq_left (by omega), List.take_of_length_le (by rw [len_data, hs]; omega), List.take_of_length_le (by rw [len_data, hs]; exact Nat.le_refl _)]
theorem text_cells (s : ByteArray) : Lib.strCells s = s.data.toList.map w8 := by simp [Lib.strCells, w8]
theorem byte_cells (l : List UInt8) : Lib.byteCells l = l.map w8 := by simp [Lib.byteCells, w8]
theorem ext_bytes2 (a b : ByteArray) (h : a.data.toList = b.data.toList) : a = b := by
 cases a; cases b
 simp only at h
 congr 1
 exact Array.ext' h
theorem outL_all (p info : ByteArray) (n k : Nat) : (⟨(outL p info n k).toArray⟩ : ByteArray) = (outN p info k).extract 0 n := by
 refine ext_bytes2 _ _ ?_
 rw [ba, ByteArray.data_extract, Array.toList_extract]
 simp [outL, List.extract_eq_take_drop]
theorem gb_more {w a b : World} (h : Gn w a) (k : Below w.heap.size a b) : Gn w b :=
 ⟨k.os.trans h.os, k.tape.trans h.tape, k.output.trans h.output, Nat.le_trans h.size k.size, fun i hi _ => (k.block i hi).trans (h.block i hi (by simp))⟩
theorem builder_kept {T e : TypeId} {B b : Nat} {p : Value} {bs : List Value} {w w' : World} (h : Lib.BuilderAt T e B b p bs w) (hg : Gn w w') : Lib.BuilderAt T e B b p bs w' := by
 obtain ⟨hB, v, hb, hown, hne⟩ := h
 refine ⟨hB, v, (hg.block b (Array.getElem?_eq_some_iff.1 hb).1 (by simp)).trans hb, hown.kept hg ?_, hne⟩
 by_cases hv : v.ownBlock = none
 ·exact .inl hv
 ·exact .inr hv
theorem one_text1 (W : World) (k : Nat) (h : k + 1 ≤ 255) : (convert 54 9 (.slice (some ⟨W.heap.size, 0, none⟩) 1 1)).run Tryz.prog (W.alloc (.cells #[.int .u8 ((k : Int) + 1)] 5)) = .ok (.string (oneB (k + 1))) (W.alloc (.cells #[.int .u8 ((k : Int) + 1)] 5)) := by
 have h2 := one_text W (k + 1) h
 have e : ((k + 1 : Nat) : Int) = (k : Int) + 1 := by omega
 rw [e] at h2
 exact h2
theorem outL_zero (p info : ByteArray) (n : Nat) : (outL p info n 0).map w8 = [] := by simp [outL, outN]
theorem small_three (a b c : ByteArray) (h : a.size ≤ 549755813888) (h2 : b.size ≤ 549755813888) (h3 : c.size ≤ 549755813888) : ∀ x ∈ [a, b, c], x.size ≤ 549755813888 := by
 intro x hx
 simp only [List.mem_cons, List.not_mem_nil, or_false] at hx
 rcases hx with rfl | rfl | rfl
 ·exact h
 ·exact h2
 ·exact h3
theorem expanded_any (p info : ByteArray) (n : Nat) (w : World) (hp : p.size ≤ 32) (hi : info.size ≤ 1048576) (hn : n ≤ 8160) (hT : Tabs w) :
  Calls Tryz.prog 145 #[.string p, .string info, .int .i64 (n : Int)] w fun e w' => e = .returned (.string ((outN p info ((n + 31) / 32)).extract 0 n)) ∧ Gn w w' := by
 have hgr := Tryz.Builder_Grow_fresh w.heap.size w.heap.size n (w.alloc (.cells #[.pointer none, .slice none 0 0] 168)) (Nat.le_refl _) (new_b w) (by simp) (by omega)
 have Hgr := qj hgr
 clear hgr
 obtain ⟨M, hM⟩ : ∃ M : Nat, M = (n + 31) / 32 := ⟨_, rfl⟩
 have hq : ((n : Int) + 32 - 1) / 32 = (M : Int) := by omega
 have hM2 : M ≤ 255 := by omega
 have HM := qj hM
 clear hM
 go_enter Tryz.func145, Tryz.ntmps145
 go_wp2_with fail
 refine Hgr.out.mono ?_
 rintro e w1 ⟨rfl, hb1, hbel⟩
 have g1 : Gn w w1 := gb_more (gb_alloc (gb_refl w none) _) hbel
 clear hbel
 go_wp2_with fail
 rw [hq]
 clear hq
 go_loopw [16, 8] (fun i last wr => ∃ k : Nat, k ≤ M ∧ i = .int .i64 k ∧ last = .string (tN p info k) ∧ Lib.BuilderAt 168 5 w.heap.size w.heap.size (.pointer (some ⟨w.heap.size, 0, none⟩)) ((outL p info n k).map w8) wr ∧ Gn w wr) (fun i _ _ => M - (intOf i).toNat)
 case atStart => exact ⟨0, Nat.zero_le _, rfl, rfl, by rw [outL_zero]; exact hb1, g1⟩
 case round =>
  clear hb1 g1
  obtain ⟨k, hk, rfl, rfl, hb, hg⟩ := hrel
  by_cases hlt : k < M
  ·have d1 : decide (k < M) = true := decide_eq_true hlt
   have d2 : decide ((k : Int) < (M : Int)) = true := dcT
   have hkn : 32 * k < n := by have := HM.out; omega
   have hconv := one_text1 wr k (by omega)
   obtain ⟨t, Ht⟩ : ∃ t, Hid (t = tN p info k) := ⟨_, rfl⟩
   obtain ⟨b1, Hb1⟩ : ∃ b, Hid (b = oneB (k + 1)) := ⟨_, rfl⟩
   have hts : t.size ≤ 32 := by rw [Ht.out]; exact tN_size p info k
   have hbs : b1.size ≤ 1 := by rw [Hb1.out]; exact Nat.le_refl _
   rw [← Ht.out]
   rw [← Hb1.out] at hconv
   obtain ⟨T, HTT⟩ : ∃ T, Hid (T = tN p info (k + 1)) := ⟨_, rfl⟩
   have Hmac : Hid (macB p (t ++ info ++ b1) = T) := by show _ = _; rw [HTT.out, Ht.out, Hb1.out]; rfl
   have hT32 : T.size = 32 := by rw [HTT.out, tN, macB_size]
   have HT32 := qj hT32
   have Hb := qj hb
   have hki : (k : Int) < 255 := by omega
   have hs3 : Strs ((wr.alloc (.cells #[.int .u8 ((k : Int) + 1)] 5)).alloc (.cells #[.string t, .string info, .string b1] 9)) (some ⟨wr.heap.size + 1, 0, none⟩) 3 [t, info, b1] :=
    (show (wr.alloc (.cells #[.int .u8 ((k : Int) + 1)] 5)).heap.size = wr.heap.size + 1 by simp) ▸ strs_new3 (wr.alloc (.cells #[.int .u8 ((k : Int) + 1)] 5)) t info b1 _ rfl
   have Hs3 := qj hs3
   clear hT32 hb hs3
   go_wp2_with fail
   refine (mac_any p (t ++ info ++ b1) _ 3 3 [t, info, b1] _ (by omega) (by exact Hs3.out) (catB_three _ _ _) (by decide) (fun h => by cases h) (small_three _ _ _ (by omega) (by omega) (by omega)) (by exact hT.keep (gb_alloc (gb_alloc hg _) _) (by simp))).mono ?_
   rintro e w2 ⟨rfl, g2⟩
   rw [Hmac.out]
   have g3 := gb_none (gb_alloc (gb_alloc hg _) _) g2
   have hb3 := builder_kept Hb.out (gb_none (gb_alloc (gb_alloc (gb_refl wr none) _) _) g2)
   clear hconv g2
   go_wp2_with fail
   refine (Tryz.Builder_Len w.heap.size w.heap.size _ _ (.inr hb3)).mono ?_
   rintro e w3 ⟨rfl, rfl⟩
   rw [List.length_map, outL_len p info n k (by omega)]
   have hT3 : (T.size : Int) = 32 := by have := HT32.out; omega
   go_wp2_with fail
   obtain ⟨m, hm⟩ : ∃ m : Nat, m = (min 32 ((n : Int) - 32 * (k : Int))).toNat := ⟨_, rfl⟩
   have hm2 : m = min 32 (n - 32 * k) := by omega
   have hlen : ((outL p info n k).map w8).length + (T.extract 0 m).size ≤ 140737488355328 := by
    rw [List.length_map, outL_len p info n k (by omega), ByteArray.size_extract]; omega
   have hwr := write_any w.heap.size w.heap.size _ (T.extract 0 m) _ hb3 hlen g3.size
   rw [← hm]
   refine hwr.mono ?_
   rintro e w4 ⟨rfl, hb4, hbel⟩
   have g4 := gb_more g3 hbel
   rw [text_cells, ← List.map_append, HTT.out, ← outL_more p info n k m hm2] at hb4
   clear hwr hb3 hlen g3 hbel hm hm2 hT3
   go_wp2_with fail
   go_roundw
   case rel => exact ⟨k + 1, by omega, by go_num, by rw [HTT.out], hb4, g4⟩
   case measure => simp [intOf]; omega
  ·have hkM : k = M := by omega
   have d1 : decide (k < M) = false := decide_eq_false hlt
   have d2 : decide ((k : Int) < (M : Int)) = false := dcF
   have Hk := qj hkM
   have hst := Tryz.Builder_String_any w.heap.size w.heap.size (outL p info n k) wr (.inr (by rw [byte_cells]; exact hb)) hg.size
   have Hst := qj hst
   clear hkM hlt hk hst
   go_wp2_with fail
   refine Hst.out.mono ?_
   rintro e w2 ⟨rfl, hbel⟩
   rw [outL_all, Hk.out, HM.out]
   go_wp2_with fail
   go_ret
   exact ⟨rfl, gb_more hg hbel⟩
end Go.Proofs.YtpcjbjpofcdjeaaGreatDoor.Hh
namespace Go.Proofs.YtpcjbjpofcdjeaaGreatDoor.Hh
open Go.RowKit Wd Mm
def Errs (w : World) : Prop := ∃ (a0 a1 : Addr) (c0 c1 : Array Value) (t0 t1 : TypeId),
 w.cell? ⟨12, 0, none⟩ = some (.iface 251 (.pointer (some a0))) ∧ w.cell? ⟨13, 0, none⟩ = some (.iface 251 (.pointer (some a1))) ∧ a0 ≠ a1 ∧
 w.heap[a0.block]? = some (.cells c0 t0 (0, 0)) ∧ w.heap[a1.block]? = some (.cells c1 t1 (0, 0))
theorem Errs.keep {w w' : World} (h : Errs w) (hg : Gn w w') : Errs w' := by
 obtain ⟨a0, a1, c0, c1, t0, t1, h0, h1, hne, hb0, hb1⟩ := h
 exact ⟨a0, a1, c0, c1, t0, t1, (World.cell?_of_block (hg.block _ (block_lt_of_cell h0) (by simp))).trans h0, (World.cell?_of_block (hg.block _ (block_lt_of_cell h1) (by simp))).trans h1, hne, (hg.block _ (Array.getElem?_eq_some_iff.1 hb0).1 (by simp)).trans hb0, (hg.block _ (Array.getElem?_eq_some_iff.1 hb1).1 (by simp)).trans hb1⟩
theorem check_ok (n : Nat) (w : World) (hn : n ≤ 8160) : Calls Tryz.prog 144 #[.int .i64 (n : Int)] w fun e w' => e = .returned .nilIface ∧ w = w' := by
 have t1 : decide ((n : Int) < 0) = false := dcF
 have t2 : decide ((8160 : Int) < (n : Int)) = false := dcF
 go_enter Tryz.func144, Tryz.ntmps144
 go_wp2_with fail
 go_ret
 exact ⟨rfl, rfl⟩
theorem is_nil (b : Addr) (w : World) : Calls Tryz.prog 136 #[.nilIface, .iface 251 (.pointer (some b))] w fun e w' => e = .returned (.bool false) ∧ w = w' := by
 have hn := run_eql_iface_nil_left (P := Tryz.prog) w 251 (.pointer (some b)) Tryz.underlying72
 go_enter Tryz.func136, Tryz.ntmps136
 go_wp2_with fail
 go_ret
 exact ⟨rfl, rfl⟩
theorem derive_any (salt key info : ByteArray) (n : Nat) (w : World) (hn : n ≤ 8160) (h1 : salt.size ≤ 1048576) (h2 : key.size ≤ 1048576) (h3 : info.size ≤ 1048576) (hT : Tabs w) (hE : Errs w) :
  Calls Tryz.prog 115 #[.string salt, .string key, .string info, .int .i64 (n : Int)] w fun e w' => e = .returned (.string (deriveB salt key info n)) ∧ Gn w w' := by
 obtain ⟨a0, a1, c0, c1, t0, t1, k0, k1, _, _, _⟩ := hE
 obtain ⟨p, Hp⟩ : ∃ p : ByteArray, Hid (p = macB salt key) := ⟨_, rfl⟩
 have hp : p.size ≤ 32 := by rw [Hp.out, macB_size]; exact Nat.le_refl _
 have hT1 := hT.keep (gb_alloc (gb_refl w none) (.cells #[.string key] 9)) (by simp)
 go_enter Tryz.func115, Tryz.ntmps115
 go_wp2_with fail
 refine (check_ok n _ hn).mono ?_
 rintro e w1 ⟨rfl, rfl⟩
 go_wp2_with fail
 refine (is_nil a0 _).mono ?_
 rintro e w1 ⟨rfl, rfl⟩
 go_wp2_with fail
 refine (is_nil a1 _).mono ?_
 rintro e w1 ⟨rfl, rfl⟩
 go_wp2_with fail
 refine (mac_any salt key _ 1 1 [key] _ (by omega) (by exact strs_one _ _) (catB_one _) (by decide) (fun h => by cases h) (fun x hx => by rw [List.mem_singleton.1 hx]; omega) (by exact hT1)).mono ?_
 rintro e w2 ⟨rfl, g2⟩
 rw [← Hp.out]
 have g3 := gb_none (gb_alloc (gb_refl w none) _) g2
 clear g2 hT1 k0 k1
 go_wp2_with fail
 refine (expanded_any p info n _ hp h3 hn (by exact hT.keep g3 (by simp))).mono ?_
 rintro e w3 ⟨rfl, g4⟩
 rw [show (outN p info ((n + 31) / 32)).extract 0 n = deriveB salt key info n by rw [deriveB, Hp.out]]
 go_wp2_with fail
 go_ret
 exact ⟨rfl, gb_none g3 g4⟩
end Go.Proofs.YtpcjbjpofcdjeaaGreatDoor.Hh
namespace Go.Proofs.YtpcjbjpofcdjeaaGreatDoor.Hh
open Go.RowKit Wd Mm
end Go.Proofs.YtpcjbjpofcdjeaaGreatDoor.Hh
