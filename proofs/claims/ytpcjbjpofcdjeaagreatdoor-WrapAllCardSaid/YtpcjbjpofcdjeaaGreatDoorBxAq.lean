/- box.count: a number in eight bytes, the highest first. box's errors within: what they are, what errors.Is says of a refusal. box.checkSizes and box.reason. box.xored: a text by the stream of the key's first half. box.tagOf and the document's tag. box.Seal, box.Open: what they answer. box.opened: what is opened, or why not. What xored twice is: plain lemmas, no program. box.Open: what it answers, whatever it is given. -/
import Derived.Test.YtpcjbjpofcdjeaaGreatDoorTwq
import Derived.LaidEql
import Derived.Stop.Asserts
import Derived.RowKitTokens
import Derived.Test.YtpcjbjpofcdjeaaGreatDoorCcq
import Derived.Test.YtpcjbjpofcdjeaaGreatDoorHmq
import Derived.RegionTactic
set_option maxHeartbeats 4000000
set_option maxRecDepth 100000
namespace Go.Proofs.YtpcjbjpofcdjeaaGreatDoor.Bx
open Go.RowKit Wd Mm Hh
theorem put_all (Z : Array Value) (N : Nat) (hZ : Z.size = 8) : put Z 0 (fun j => w8 (highB N 8 j)) 8 = ((beBytes N 8).map w8).toArray := by
 apply Array.ext_getElem?
 intro i
 rw [put_get]
 by_cases h : i < 8
 ·rw [if_pos (by omega)]
  simp [beBytes, h]
 ·rw [if_neg (by omega), Array.getElem?_eq_none (by omega), Array.getElem?_eq_none (by simp [beBytes_len]; omega)]
theorem count_any (N : Nat) (w : World) (hN : N ≤ 9223372036854775807) :
  Calls Tryz.prog 143 #[.int .i64 (N : Int)] w fun e w' => e = .returned (.string ⟨(beBytes N 8).toArray⟩) ∧ Gn w w' := by
 have hA : Tryz.prog.arrayLen 223 = 8 := by kernel_rfl
 go_enter Tryz.func143, Tryz.ntmps143
 go_wp2
 go_loopw [4, 0] (fun i v wr => ∃ k q : Nat, k ≤ 8 ∧ i = .int .i64 (7 - (k : Int)) ∧ v = .int .i64 (q : Int) ∧ q ≤ 9223372036854775807 ∧ q = N / 256 ^ k ∧ (∃ Z : Array Value, Row wr w.heap.size 223 (put Z (8 - k) (fun j => w8 (highB N 8 (8 - k + j))) k) ∧ Hid (Z.size = 8)) ∧ Gn w wr) (fun i _ _ => (intOf i + 1).toNat)
 case atStart => exact ⟨0, N, Nat.zero_le _, by simp, rfl, hN, by simp, ⟨_, heap_alloc_new _ _, rfl⟩, gb_alloc (gb_refl _ _) _⟩
 case round =>
  obtain ⟨k, q, hk, rfl, rfl, hq0, hq, ⟨Z, hr, HZ⟩, hg⟩ := hrel
  have Hq := qj hq
  clear hq
  by_cases hlt : k < 8
  ·obtain ⟨j, hj⟩ : ∃ j : Nat, 7 - (k : Int) = (j : Int) := ⟨7 - k, by omega⟩
   have Hj := qj hj
   rw [hj]
   clear hj
   have hjn : j < 8 := by have := Hj.out; omega
   have hj8 : (j : Int) < 8 := by omega
   obtain ⟨v0, hv0⟩ : ∃ v, (put Z (8 - k) (fun j => w8 (highB N 8 (8 - k + j))) k)[j]? = some v := ⟨_, Array.getElem?_eq_getElem (by rw [put_size, HZ.out]; omega)⟩
   have hc := hr.at_ hv0
   have hf : wr.frozen? ⟨w.heap.size, j, none⟩ = false := hr.free _
   have hd : decide (0 ≤ (j : Int)) = true := by simp
   clear hv0
   go_wp2
   go_roundw
   case rel =>
    rw [highB_walk N 8 j q (by rw [Hq.out, show k = 8 - 1 - j by have := Hj.out; omega])]
    refine ⟨k + 1, q / 256, by omega, ?_, congrArg _ (Int.natCast_ediv q 256).symm, Nat.le_trans (Nat.div_le_self _ _) hq0, ?_, ⟨Z, ?_, HZ⟩, gb_new hg (gb_set1 _ _ _ _) (Nat.le_refl _)⟩
    ·have := Hj.out; exact congrArg _ (by omega)
    ·rw [Hq.out, Nat.div_div_eq_div_mul, Nat.pow_succ]
    ·have h := hr.set_ j (w8 (highB N 8 j))
     have ej : j = 8 - (k + 1) := by have := Hj.out; omega
     have e : put Z (8 - (k + 1)) (fun j => w8 (highB N 8 (8 - (k + 1) + j))) (k + 1) = (put Z (8 - k) (fun j => w8 (highB N 8 (8 - k + j))) k).setIfInBounds j (w8 (highB N 8 j)) := by
      rw [put_front]
      rw [show 8 - (k + 1) + 1 = 8 - k by omega, show 8 - (k + 1) = j by omega, show j + 0 = j by omega]
      refine congrArg (fun C => Array.setIfInBounds C j (w8 (highB N 8 j))) ?_
      refine put_congr _ _ _ _ _ fun i _ => ?_
      show w8 (highB N 8 (j + (i + 1))) = _
      rw [show j + (i + 1) = 8 - k + i by omega]
     rw [e]
     exact h
   case measure => simp [intOf]
  ·have hkn : k = 8 := by omega
   subst hkn
   have hd : decide (0 ≤ (7 : Int) - (8 : Nat)) = false := by decide
   have e : put Z (8 - 8) (fun j => w8 (highB N 8 (8 - 8 + j))) 8 = ((beBytes N 8).map w8).toArray := by
    rw [← put_all Z N HZ.out]
    exact put_congr _ _ _ _ _ fun j _ => by rw [show 8 - 8 + j = j by omega]
   rw [e] at hr
   have hconv : (convert 54 9 (.slice (some ⟨w.heap.size, 0, none⟩) 8 8)).run Tryz.prog wr = .ok (.string ⟨(beBytes N 8).toArray⟩) wr := by
    have h := run_convert_bytes_back (P := Tryz.prog) wr 54 9 5 ⟨w.heap.size, 0, none⟩ 8 (beBytes N 8) Tryz.underlying54 Tryz.underlying5 Tryz.underlying9 (fun j hj => by
     have hadd : (⟨w.heap.size, 0, none⟩ : Addr).add j = ⟨w.heap.size, j, none⟩ := by unfold Addr.add; split <;> simp_all
     rw [hadd]
     exact hr.at_ (by simp [hj, w8]))
    rw [beBytes_len] at h; exact h
   clear hr e
   go_wp2
   go_ret
   exact ⟨rfl, hg⟩
end Go.Proofs.YtpcjbjpofcdjeaaGreatDoor.Bx
namespace Go.Proofs.YtpcjbjpofcdjeaaGreatDoor.Bx
open Go.RowKit Wd Mm Hh
def BE (w : World) (g : Nat) : Prop := ∃ (a : Addr) (c : Array Value) (t : TypeId), w.cell? ⟨g, 0, none⟩ = some (.iface 251 (.pointer (some a))) ∧ w.heap[a.block]? = some (.cells c t (0, 0))
theorem BE.keep {w w' : World} {g : Nat} (h : BE w g) (hg : Gn w w') : BE w' g := by
 obtain ⟨a, c, t, h0, hb⟩ := h
 exact ⟨a, c, t, (World.cell?_of_block (hg.block _ (block_lt_of_cell h0) (by simp))).trans h0, (hg.block _ (Array.getElem?_eq_some_iff.1 hb).1 (by simp)).trans hb⟩
def BErrs (w : World) : Prop := BE w 10 ∧ BE w 11 ∧ BE w 14 ∧ BE w 15 ∧ BE w 16
theorem BErrs.keep {w w' : World} (h : BErrs w) (hg : Gn w w') : BErrs w' := ⟨h.1.keep hg, h.2.1.keep hg, h.2.2.1.keep hg, h.2.2.2.1.keep hg, h.2.2.2.2.keep hg⟩
theorem is_nil (b : Addr) (w : World) : Calls Tryz.prog 136 #[.nilIface, .iface 251 (.pointer (some b))] w fun e w' => e = .returned (.bool false) ∧ w = w' := by
 have hn := run_eql_iface_nil_left (P := Tryz.prog) w 251 (.pointer (some b)) Tryz.underlying72
 go_enter Tryz.func136, Tryz.ntmps136
 go_wp2_with fail
 go_ret
 exact ⟨rfl, rfl⟩
theorem typeOf_err (v : Value) (w : World) : (Extern.ReflectliteType.typeOf #[.iface 251 v]).run Tryz.prog w = .ok (.iface 180 (.agg #[.pointer (some ⟨22, 251, none⟩)])) w := by kernel_rfl
def compX : Array Value → Sem Value := Extern.ReflectliteType.method fun t => do Extern.Rtype.noPackHeld "Comparable" t; pure (.bool (← typeInfo t).comparable)
theorem comparable_err (w : World) : (compX #[.agg #[.pointer (some ⟨22, 251, none⟩)]]).run Tryz.prog w = .ok (.bool true) w := by kernel_rfl
theorem method_comp (v : Value) (w : World) : (Go.method 381 180 v "Comparable").run Tryz.prog w = .ok (222, v) w := by kernel_rfl
theorem method_unwrap (v : Value) (w : World) : (Go.method 381 195 v "Unwrap").run Tryz.prog w = .ok (232, v) w := by kernel_rfl
theorem comp_err : (Tryz.prog.info? 251).map (·.comparable) = some true := by kernel_rfl
theorem size_err : (Tryz.prog.info? 269).map (·.size) = some 1 := by kernel_rfl
theorem noIs_err (v : Value) (xT : TypeId) (w : World) : (Instr.typeAssert (.iface 251 v) xT 234 true).run Tryz.prog w = .ok (.tuple #[.nilIface, .bool false]) w := run_typeAssert_lacksB Tryz.underlying234 (by kernel_rfl) (by kernel_rfl) v xT w
theorem noUnwrap_err (v : Value) (xT : TypeId) (w : World) : (Instr.typeAssert (.iface 251 v) xT 188 true).run Tryz.prog w = .ok (.tuple #[.nilIface, .bool false]) w := run_typeAssert_lacksB Tryz.underlying188 (by kernel_rfl) (by kernel_rfl) v xT w
theorem noUnwraps_err (v : Value) (xT : TypeId) (w : World) : (Instr.typeAssert (.iface 251 v) xT 190 true).run Tryz.prog w = .ok (.tuple #[.nilIface, .bool false]) w := run_typeAssert_lacksB Tryz.underlying190 (by kernel_rfl) (by kernel_rfl) v xT w
theorem noIs_ref (v : Value) (xT : TypeId) (w : World) : (Instr.typeAssert (.iface 195 v) xT 234 true).run Tryz.prog w = .ok (.tuple #[.nilIface, .bool false]) w := run_typeAssert_lacksB Tryz.underlying234 (by kernel_rfl) (by kernel_rfl) v xT w
theorem hasUnwrap_ref (v : Value) (xT : TypeId) (w : World) : (Instr.typeAssert (.iface 195 v) xT 188 true).run Tryz.prog w = .ok (.tuple #[.iface 195 v, .bool true]) w := run_typeAssert_hasB Tryz.underlying188 (by kernel_rfl) v xT w
theorem unwrap_any (p : ByteArray) (n : Int) (E : Value) (w : World) (hE : ∃ t a, E = .iface t (.pointer (some a))) : Calls Tryz.prog 232 #[.agg #[.string p, .int .i64 n, E]] w fun e w' => e = .returned E ∧ Gn w w' := by
 obtain ⟨t, a, rfl⟩ := hE
 go_enter Tryz.func232, Tryz.ntmps232
 go_wp2_with fail
 go_ret
 exact ⟨rfl, gb_alloc (gb_refl _ _) _⟩
theorem loop_same (p : ByteArray) (n : Int) (b : Addr) (w : World) :
  Calls Tryz.prog 162 #[.iface 195 (.agg #[.string p, .int .i64 n, .iface 251 (.pointer (some b))]), .iface 251 (.pointer (some b)), .bool true] w fun e w' => e = .returned (.bool true) ∧ Gn w w' := by
 obtain ⟨i, hi, hcmp⟩ := Option.map_eq_some_iff.1 comp_err
 obtain ⟨j, hj, hjs⟩ := Option.map_eq_some_iff.1 size_err
 have nW := noIs_ref
 have uW := hasUnwrap_ref
 have mU := method_unwrap
 have hty := run_eql_iface_types (P := Tryz.prog) 195 251 (.agg #[.string p, .int .i64 n, .iface 251 (.pointer (some b))]) (.pointer (some b)) Tryz.underlying72 (by decide) w
 go_enter Tryz.func162, Tryz.ntmps162
 go_wp2_with fail
 refine wp_loop_rounds 2 ?_
 rw [rounds_succ]
 go_wp2_with fail
 refine (unwrap_any p n _ _ ⟨_, _, rfl⟩).mono ?_
 rintro e w1 ⟨rfl, g1⟩
 have heq := run_eql_iface_ptr_same (P := Tryz.prog) w1 b Tryz.underlying72 Tryz.underlying251 hi hcmp hj
 go_wp2_with fail
 rw [rounds_succ]
 go_wp2_with fail
 go_ret
 exact ⟨rfl, g1⟩
theorem loop_other (p : ByteArray) (n : Int) (a b : Addr) (ca cb : Array Value) (ta tb : TypeId) (w : World) (hne : a ≠ b) (ha : w.heap[a.block]? = some (.cells ca ta (0, 0))) (hb : w.heap[b.block]? = some (.cells cb tb (0, 0))) :
  Calls Tryz.prog 162 #[.iface 195 (.agg #[.string p, .int .i64 n, .iface 251 (.pointer (some a))]), .iface 251 (.pointer (some b)), .bool true] w fun e w' => e = .returned (.bool false) ∧ Gn w w' := by
 obtain ⟨i, hi, hcmp⟩ := Option.map_eq_some_iff.1 comp_err
 obtain ⟨j, hj, hjs⟩ := Option.map_eq_some_iff.1 size_err
 have nE := noIs_err
 have uE := noUnwrap_err
 have vE := noUnwraps_err
 have nW := noIs_ref
 have uW := hasUnwrap_ref
 have mU := method_unwrap
 have hty := run_eql_iface_types (P := Tryz.prog) 195 251 (.agg #[.string p, .int .i64 n, .iface 251 (.pointer (some a))]) (.pointer (some b)) Tryz.underlying72 (by decide) w
 have Ha := qj ha
 have Hb := qj hb
 have Hne := qj hne
 clear ha hb hne
 go_enter Tryz.func162, Tryz.ntmps162
 go_wp2_with fail
 refine wp_loop_rounds 2 ?_
 rw [rounds_succ]
 go_wp2_with fail
 refine (unwrap_any p n _ _ ⟨_, _, rfl⟩).mono ?_
 rintro e w1 ⟨rfl, g1⟩
 have heq := run_eql_iface_ptr_other (P := Tryz.prog) w1 Tryz.underlying72 Tryz.underlying251 hi hcmp hj (by rw [hjs]; decide) Hne.out ((g1.block _ (Array.getElem?_eq_some_iff.1 Ha.out).1 (by simp)).trans Ha.out) ((g1.block _ (Array.getElem?_eq_some_iff.1 Hb.out).1 (by simp)).trans Hb.out)
 go_wp2_with fail
 rw [rounds_succ]
 go_wp2_with fail
 go_ret
 exact ⟨rfl, g1⟩
theorem is_ref (p : ByteArray) (n : Int) (a b : Addr) (ca cb : Array Value) (ta tb : TypeId) (w : World) (ha : w.heap[a.block]? = some (.cells ca ta (0, 0))) (hb : w.heap[b.block]? = some (.cells cb tb (0, 0))) (q : Bool) (hp : q = true ∧ a = b ∨ q = false ∧ a ≠ b) :
  Calls Tryz.prog 136 #[.iface 195 (.agg #[.string p, .int .i64 n, .iface 251 (.pointer (some a))]), .iface 251 (.pointer (some b))] w fun e w' => e = .returned (.bool q) ∧ Gn w w' := by
 have h8 := @run_callFunc_extern Tryz.prog 138 _ Extern.ReflectliteType.typeOf Tryz.func138 (by kernel_rfl) (by kernel_rfl) (by kernel_rfl) (by kernel_rfl)
 have h32 := @run_callFunc_extern Tryz.prog 222 _ compX Tryz.func222 (by kernel_rfl) (by kernel_rfl) (by kernel_rfl) (by kernel_rfl)
 have tT := typeOf_err
 have cT := comparable_err
 have mC := method_comp
 have hl : Calls Tryz.prog 162 #[.iface 195 (.agg #[.string p, .int .i64 n, .iface 251 (.pointer (some a))]), .iface 251 (.pointer (some b)), .bool true] w fun e w' => e = .returned (.bool q) ∧ Gn w w' := by
  rcases hp with ⟨rfl, rfl⟩ | ⟨rfl, hne⟩
  ·exact loop_same p n a w
  ·exact loop_other p n a b ca cb ta tb w hne ha hb
 have Hl := qj hl
 clear ha hb hp hl
 go_enter Tryz.func136, Tryz.ntmps136
 go_wp2_with fail
 refine Hl.out.mono ?_
 rintro e w1 ⟨rfl, g1⟩
 go_wp2_with fail
 go_ret
 exact ⟨rfl, g1⟩
end Go.Proofs.YtpcjbjpofcdjeaaGreatDoor.Bx
namespace Go.Proofs.YtpcjbjpofcdjeaaGreatDoor.Bx
open Go.RowKit Wd Mm Hh
def refV (p : ByteArray) (n : Int) (a : Addr) : Value := .iface 195 (.agg #[.string p, .int .i64 n, .iface 251 (.pointer (some a))])
def ErrIs (w : World) (v : Value) : Prop := ∃ (p : ByteArray) (n : Int) (a : Addr) (c : Array Value) (t : TypeId), v = refV p n a ∧ w.heap[a.block]? = some (.cells c t (0, 0))
theorem ErrIs.keep {w w' : World} {v : Value} (h : ErrIs w v) (hg : Gn w w') : ErrIs w' v := by
 obtain ⟨p, n, a, c, t, hv, hb⟩ := h
 exact ⟨p, n, a, c, t, hv, (hg.block _ (Array.getElem?_eq_some_iff.1 hb).1 (by simp)).trans hb⟩
theorem check_ok (key nonce : ByteArray) (w : World) (hk : key.size = 64) (hn : nonce.size = 12) : Calls Tryz.prog 111 #[.string key, .string nonce] w fun e w' => e = .returned .nilIface ∧ w = w' := by
 have t1 : ((key.size : Int) == 64) = true := by rw [hk]; rfl
 have t2 : ((nonce.size : Int) == 12) = true := by rw [hn]; rfl
 clear hk hn
 go_enter Tryz.func111, Tryz.ntmps111
 go_wp2_with fail
 go_ret
 exact ⟨rfl, rfl⟩
theorem check_key (key nonce : ByteArray) (w : World) (hk : key.size ≠ 64) (hE : BErrs w) : Calls Tryz.prog 111 #[.string key, .string nonce] w fun e w' => ∃ p n a c t, e = .returned (refV p n a) ∧ w'.heap[a.block]? = some (.cells c t (0, 0)) ∧ w = w' := by
 have t1 : ((key.size : Int) == 64) = false := by rw [beq_eq_false_iff_ne]; omega
 obtain ⟨a, c, t, k, hb⟩ := hE.1
 have Hb := qj hb
 clear hk hE hb
 go_enter Tryz.func111, Tryz.ntmps111
 go_wp2_with fail
 go_ret
 exact ⟨_, _, a, c, t, rfl, Hb.out, rfl⟩
theorem check_nonce (key nonce : ByteArray) (w : World) (hk : key.size = 64) (hn : nonce.size ≠ 12) (hE : BErrs w) : Calls Tryz.prog 111 #[.string key, .string nonce] w fun e w' => ∃ p n a c t, e = .returned (refV p n a) ∧ w'.heap[a.block]? = some (.cells c t (0, 0)) ∧ w = w' := by
 have t1 : ((key.size : Int) == 64) = true := by rw [hk]; rfl
 have t2 : ((nonce.size : Int) == 12) = false := by rw [beq_eq_false_iff_ne]; omega
 obtain ⟨a, c, t, k, hb⟩ := hE.2.1
 have Hb := qj hb
 clear hk hn hE hb
 go_enter Tryz.func111, Tryz.ntmps111
 go_wp2_with fail
 go_ret
 exact ⟨_, _, a, c, t, rfl, Hb.out, rfl⟩
theorem check_no (key nonce : ByteArray) (w : World) (h : ¬ (key.size = 64 ∧ nonce.size = 12)) (hE : BErrs w) : Calls Tryz.prog 111 #[.string key, .string nonce] w fun e w' => ∃ p n a c t, e = .returned (refV p n a) ∧ w'.heap[a.block]? = some (.cells c t (0, 0)) ∧ w = w' := by
 by_cases hk : key.size = 64
 ·exact check_nonce key nonce w hk (fun hn => h ⟨hk, hn⟩) hE
 ·exact check_key key nonce w hk hE
theorem reason_nil (w : World) (hE : BErrs w) : Calls Tryz.prog 122 #[.nilIface] w fun e w' => e = .returned .nilIface ∧ w = w' := by
 obtain ⟨⟨a0, _, _, k0, _⟩, ⟨a1, _, _, k1, _⟩, ⟨a2, _, _, k2, _⟩, ⟨a3, _, _, k3, _⟩, ⟨a4, _, _, k4, _⟩⟩ := hE
 go_enter Tryz.func122, Tryz.ntmps122
 go_wp2_with fail
 refine (is_nil a0 _).mono ?_
 rintro e w1 ⟨rfl, rfl⟩
 go_wp2_with fail
 refine (is_nil a1 _).mono ?_
 rintro e w1 ⟨rfl, rfl⟩
 go_wp2_with fail
 refine (is_nil a2 _).mono ?_
 rintro e w1 ⟨rfl, rfl⟩
 go_wp2_with fail
 refine (is_nil a3 _).mono ?_
 rintro e w1 ⟨rfl, rfl⟩
 go_wp2_with fail
 refine (is_nil a4 _).mono ?_
 rintro e w1 ⟨rfl, rfl⟩
 go_wp2_with fail
 go_ret
 exact ⟨rfl, rfl⟩
theorem is_any (p : ByteArray) (n : Int) (a b : Addr) (ca cb : Array Value) (ta tb : TypeId) (w : World) (ha : w.heap[a.block]? = some (.cells ca ta (0, 0))) (hb : w.heap[b.block]? = some (.cells cb tb (0, 0))) :
  Calls Tryz.prog 136 #[refV p n a, .iface 251 (.pointer (some b))] w fun e w' => (∃ q, e = .returned (.bool q)) ∧ Gn w w' := by
 by_cases h : a = b
 ·exact (is_ref p n a b ca cb ta tb w ha hb true (.inl ⟨rfl, h⟩)).mono (fun e w' h => ⟨⟨_, h.1⟩, h.2⟩)
 ·exact (is_ref p n a b ca cb ta tb w ha hb false (.inr ⟨rfl, h⟩)).mono (fun e w' h => ⟨⟨_, h.1⟩, h.2⟩)
theorem reason_some (p : ByteArray) (n : Int) (a : Addr) (c : Array Value) (t : TypeId) (w : World) (ha : w.heap[a.block]? = some (.cells c t (0, 0))) (hE : BErrs w) :
  Calls Tryz.prog 122 #[refV p n a] w fun e w' => ∃ t v, e = .returned (.iface t v) ∧ Gn w w' := by
 have step : ∀ (W : World) (b : Addr) (cb : Array Value) (tb : TypeId), Gn w W → W.heap[b.block]? = some (.cells cb tb (0, 0)) → Hid (Calls Tryz.prog 136 #[refV p n a, .iface 251 (.pointer (some b))] W fun e w' => (∃ q, e = .returned (.bool q)) ∧ Gn w w') := fun W b cb tb hg hb =>
  (is_any p n a b c cb t tb W ((hg.block _ (Array.getElem?_eq_some_iff.1 ha).1 (by simp)).trans ha) hb).mono (fun e w' h => ⟨h.1, gb_none hg h.2⟩)
 have HE := qj hE
 have hr : ∃ v, refV p n a = .iface 195 v := ⟨_, rfl⟩
 clear ha hE
 obtain ⟨V, hV⟩ := hr
 rw [hV] at step ⊢
 clear hV
 obtain ⟨a0, c0, t0, k0, h0⟩ := HE.out.1
 have S0 := step w a0 c0 t0 (gb_refl _ _) h0
 clear h0
 go_enter Tryz.func122, Tryz.ntmps122
 go_wp2_with fail
 refine S0.out.mono ?_
 rintro e w1 ⟨⟨q, rfl⟩, g1⟩
 clear S0 k0
 obtain ⟨b0, _, _, k0, _⟩ := (HE.out.keep g1).1
 obtain ⟨a1, c1, t1, k1, h1⟩ := (HE.out.keep g1).2.1
 have S1 := step w1 a1 c1 t1 g1 h1
 clear h1
 cases q with
 | true =>
  go_wp2_with fail
  go_ret
  exact ⟨_, _, rfl, g1⟩
 | false =>
  go_wp2_with fail
  refine S1.out.mono ?_
  rintro e w2 ⟨⟨q, rfl⟩, g2⟩
  clear S1 k0 k1
  obtain ⟨b1, _, _, k1, _⟩ := (HE.out.keep g2).2.1
  obtain ⟨a2, c2, t2, k2, h2⟩ := (HE.out.keep g2).2.2.1
  have S2 := step w2 a2 c2 t2 g2 h2
  clear h2
  cases q with
  | true =>
   go_wp2_with fail
   go_ret
   exact ⟨_, _, rfl, g2⟩
  | false =>
   go_wp2_with fail
   refine S2.out.mono ?_
   rintro e w3 ⟨⟨q, rfl⟩, g3⟩
   clear S2 k1 k2
   obtain ⟨b2, _, _, k2, _⟩ := (HE.out.keep g3).2.2.1
   obtain ⟨a3, c3, t3, k3, h3⟩ := (HE.out.keep g3).2.2.2.1
   have S3 := step w3 a3 c3 t3 g3 h3
   clear h3
   cases q with
   | true =>
    go_wp2_with fail
    go_ret
    exact ⟨_, _, rfl, g3⟩
   | false =>
    go_wp2_with fail
    refine S3.out.mono ?_
    rintro e w4 ⟨⟨q, rfl⟩, g4⟩
    clear S3 k2 k3
    obtain ⟨b3, _, _, k3, _⟩ := (HE.out.keep g4).2.2.2.1
    obtain ⟨a4, c4, t4, k4, h4⟩ := (HE.out.keep g4).2.2.2.2
    have S4 := step w4 a4 c4 t4 g4 h4
    clear h4
    cases q with
    | true =>
     go_wp2_with fail
     go_ret
     exact ⟨_, _, rfl, g4⟩
    | false =>
     go_wp2_with fail
     refine S4.out.mono ?_
     rintro e w5 ⟨⟨q, rfl⟩, g5⟩
     clear S4 k3 k4
     obtain ⟨b4, _, _, k4, _⟩ := (HE.out.keep g5).2.2.2.2
     cases q with
     | true =>
      go_wp2_with fail
      go_ret
      exact ⟨_, _, rfl, g5⟩
     | false =>
      go_wp2_with fail
      go_ret
      exact ⟨_, _, rfl, g5⟩
end Go.Proofs.YtpcjbjpofcdjeaaGreatDoor.Bx
namespace Go.Proofs.YtpcjbjpofcdjeaaGreatDoor.Bx
open Go.RowKit Wd Mm
def xorB (key nonce s : ByteArray) : ByteArray := ⟨(Cc.xorA (key.extract 0 32) nonce 1 s.data.toList).toArray⟩
theorem text_holds (s : ByteArray) (w W : World) (cap : Nat) (t : TypeId) (m : Nat × Nat) (hW : W.heap[w.heap.size]? = some (.cells (bytesRow s cap) t m)) : Cc.Holds W (some ⟨w.heap.size, 0, none⟩) s.size s.data.toList := by
 refine ⟨Cc.len_data s, fun _ => ⟨w.heap.size, 0, rfl, (Array.getElem?_eq_some_iff.1 hW).1, fun i hi => ?_⟩⟩
 rw [Nat.zero_add]
 simp only [World.cell?, hW]
 exact Cc.bytesRow_get s cap i hi
theorem xored_any (key nonce s : ByteArray) (w : World) (hk : key.size = 64) (hs : s.size ≤ 9223372036854775807) :
  Calls Tryz.prog 112 #[.string key, .string nonce, .string s] w fun e w' => e = .returned (.string (xorB key nonce s)) ∧ Gn w w' := by
 have k1 : (32 : Int) ≤ (key.size : Int) := by omega
 have k2 : 32 ≤ key.size := by omega
 have hcv := fun W => run_bytes_of_string (P := Tryz.prog) W 9 54 5 s Tryz.underlying9 Tryz.underlying54 Tryz.underlying5
 clear hk
 go_enter Tryz.func112, Tryz.ntmps112
 go_wp2_with fail
 have r0 : RowF (w.alloc (.cells (bytesRow s (grownCap w s.size 0 5)) 5 ((bytesRow s (grownCap w s.size 0 5)).size, (bytesRow s (grownCap w s.size 0 5)).size + 1))).drew w.heap.size 5 (bytesRow s (grownCap w s.size 0 5)) :=
  ⟨_, Nat.le_refl _, heap_alloc_new _ _⟩
 obtain ⟨m, _, hm⟩ := r0
 have hh := text_holds s w _ _ _ _ hm
 have g0 : w.grownBy (w.alloc (.cells (bytesRow s (grownCap w s.size 0 5)) 5 ((bytesRow s (grownCap w s.size 0 5)).size, (bytesRow s (grownCap w s.size 0 5)).size + 1))).drew none := gb_drew (gb_alloc (gb_refl _ _) _)
 clear hm
 refine (Cc.xor_any _ _ _ _ _ _ _ _ hs hh).mono ?_
 rintro e w1 ⟨v, rfl, g1, ht⟩
 have hst := Cc.told_string ht w1 (gb_refl _ _)
 have g2 := gb_none g0 g1
 clear hh g0 g1 ht
 go_wp2_with fail
 go_ret
 exact ⟨rfl, g2⟩
end Go.Proofs.YtpcjbjpofcdjeaaGreatDoor.Bx
namespace Go.Proofs.YtpcjbjpofcdjeaaGreatDoor.Bx
open Go.RowKit Wd Mm Hh Td
theorem strs_new4 (w : World) (p q r s : ByteArray) (o : Obj) (ho : o = .cells #[.string p, .string q, .string r, .string s] 9 (0, 0)) : Strs (w.alloc o) (some ⟨w.heap.size, 0, none⟩) 4 [p, q, r, s] := by
 subst ho
 refine ⟨rfl, fun _ => ⟨w.heap.size, 0, rfl, by simp, fun i hi => ?_⟩⟩
 have h : i = 0 ∨ i = 1 ∨ i = 2 ∨ i = 3 := by omega
 rcases h with rfl | rfl | rfl | rfl
 ·exact cell_of_row _ _ 0 #[.string p, .string q, .string r, .string s] 9 (0, 0) (heap_alloc_new _ _)
 ·exact cell_of_row _ _ 1 #[.string p, .string q, .string r, .string s] 9 (0, 0) (heap_alloc_new _ _)
 ·exact cell_of_row _ _ 2 #[.string p, .string q, .string r, .string s] 9 (0, 0) (heap_alloc_new _ _)
 ·exact cell_of_row _ _ 3 #[.string p, .string q, .string r, .string s] 9 (0, 0) (heap_alloc_new _ _)
theorem catB_four (p q r s : ByteArray) : catB [p, q, r, s] = (p ++ q ++ r ++ s).data.toList := by
 simp [catB, ByteArray.data_append]
def cntB (N : Nat) : ByteArray := ⟨(beBytes N 8).toArray⟩
theorem cntB_size (N : Nat) : (cntB N).size = 8 := by rw [← len_data]; unfold cntB; rw [ba]; exact beBytes_len _ _
def overB (nonce ad c : ByteArray) : ByteArray := cntB ad.size ++ ad ++ nonce ++ c
def tagB (key nonce ad c : ByteArray) : ByteArray := (macB (key.extract 32 key.size) (overB nonce ad c)).extract 0 16
theorem tagB_size (key nonce ad c : ByteArray) : (tagB key nonce ad c).size = 16 := by
 unfold tagB
 rw [ByteArray.size_extract, macB_size]; rfl
attribute [local go_sem] Td.upon_value Td.upon_skip Td.upon_enter Td.upon_row Td.look_tmp Td.look_const Td.look_func Td.look_global
theorem tag_any (key nonce ad c : ByteArray) (w : World) (hk : key.size = 64) (hn : nonce.size ≤ 549755813888) (ha : ad.size ≤ 549755813888) (hc : c.size ≤ 549755813888) (hT : Tabs w) :
  Calls Tryz.prog 113 #[.string key, .string nonce, .string ad, .string c] w fun e w' => e = .returned (.string (tagB key nonce ad c)) ∧ Gn w w' := by
 have k1 : (32 : Int) ≤ (key.size : Int) := by omega
 have k2 : 32 ≤ key.size := by omega
 have hks : (key.extract 32 key.size).size ≤ 549755813888 := by rw [ByteArray.size_extract]; omega
 obtain ⟨K, HK⟩ : ∃ K, Hid (macB (key.extract 32 key.size) (overB nonce ad c) = K) := ⟨_, rfl⟩
 have hKs : K.size = 32 := by rw [← HK.out]; exact macB_size _ _
 have h16 : (16 : Int) ≤ (K.size : Int) := by omega
 have h16n : 16 ≤ K.size := by omega
 have hsm : ∀ x ∈ [cntB ad.size, ad, nonce, c], x.size ≤ 549755813888 := by
  intro x hx
  simp only [List.mem_cons, List.not_mem_nil, or_false] at hx
  rcases hx with rfl | rfl | rfl | rfl
  ·rw [cntB_size]; decide
  ·exact ha
  ·exact hn
  ·exact hc
 have Hfin : Hid (tagB key nonce ad c = K.extract 0 16) := by show _ = _; rw [← HK.out]; rfl
 have hN : ad.size ≤ 9223372036854775807 := by omega
 have Hsm := qj hsm
 have Hks := qj hks
 have HN := qj hN
 clear hk hn ha hc hKs hsm hks hN
 go_enter Tryz.func113, Tryz.ntmps113
 go_wp2_with fail
 refine tw_go ?_
 refine tw_h 0 ?_
 refine tw_e 0 9 ?_
 refine tw_h 2 ?_
 refine tw_e 0 11 ?_
 apply tw_xe 0 12
 ·intro W f hW e12 K hK; go_simp; refine (count_any ad.size _ HN.out).mono ?_; rintro e w1 ⟨rfl, g⟩; exact ⟨_, rfl, hK _ _ g rfl⟩
 refine tw_h 2 ?_
 refine tw_h 1 ?_
 refine tw_h 3 ?_
 apply tw_at strs_stays
 ·intro W f hW hE h0 K hK; have e13 := hE.of 3 13; have e14 := hE.of 2 14; have e15 := hE.of 1 15; have e16 := hE.of 0 16; clear hE h0; refine yes_f ?_; go_simp; exact hK _ _ (gb_alloc (gb_refl _ _) _) ⟨_, _, rfl, strs_new4 _ _ _ _ _ _ rfl⟩
 apply tw_is
 ·intro W f hW hE h0 K hK; have e10 := hE.of 7 10; have e17 := hE 0 17 _ rfl (by kernel_rfl); clear hE h0; refine yes_f ?_; obtain ⟨A, cp, ev, hs⟩ := e17; go_simp; (refine (mac_any _ (overB nonce ad c) _ 4 _ [cntB ad.size, ad, nonce, c] _ Hks.out hs (catB_four _ _ _ _) (by decide) (fun h => by cases h) Hsm.out (hT.keep hW (by simp))).mono ?_); rintro e w1 ⟨rfl, g⟩; rw [HK.out]; exact ⟨_, rfl, hK _ _ g rfl⟩
 refine tw_e 0 18 ?_
 refine tw_e 0 19 ?_
 refine tw_nil fun W f hW hA => ?_
 have e8 : f 8 = _ := hA 0 (some 8) _ rfl
 rw [e8]
 clear hA
 go_wp2_with fail
 go_ret
 exact ⟨by rw [Hfin.out]; rfl, hW⟩
end Go.Proofs.YtpcjbjpofcdjeaaGreatDoor.Bx
namespace Go.Proofs.YtpcjbjpofcdjeaaGreatDoor.Bx
open Go.RowKit Wd Mm Hh
def sealB (key nonce ad plain : ByteArray) : ByteArray := if key.size = 64 ∧ nonce.size = 12 ∧ plain.size ≤ 1048576 then xorB key nonce plain ++ tagB key nonce ad (xorB key nonce plain) else ⟨#[]⟩
def openB (key nonce ad s : ByteArray) : Option ByteArray :=
 if key.size = 64 ∧ nonce.size = 12 ∧ 16 ≤ s.size ∧ s.size - 16 ≤ 1048576 ∧ s.extract (s.size - 16) s.size = tagB key nonce ad (s.extract 0 (s.size - 16)) then some (xorB key nonce (s.extract 0 (s.size - 16))) else none
def openS (key nonce ad s : ByteArray) : ByteArray := (openB key nonce ad s).getD ⟨#[]⟩
theorem seal_no (key nonce ad plain : ByteArray) (w : World) (h : ¬ (key.size = 64 ∧ nonce.size = 12)) (hE : BErrs w) :
  Calls Tryz.prog 69 #[.string key, .string nonce, .string ad, .string plain] w fun e w' => e = .returned (.string ⟨#[]⟩) ∧ Gn w w' := by
 go_enter Tryz.func69, Tryz.ntmps69
 go_wp2_with fail
 refine (check_no key nonce _ h hE).mono ?_
 rintro e w1 ⟨p, n, a, c, t, rfl, _, rfl⟩
 unfold refV
 go_wp2_with fail
 go_ret
 exact ⟨rfl, gb_refl _ _⟩
theorem seal_long (key nonce ad plain : ByteArray) (w : World) (hk : key.size = 64) (hn : nonce.size = 12) (hp : 1048576 < plain.size) :
  Calls Tryz.prog 69 #[.string key, .string nonce, .string ad, .string plain] w fun e w' => e = .returned (.string ⟨#[]⟩) ∧ Gn w w' := by
 have t1 : decide ((1048576 : Int) < (plain.size : Int)) = true := dcT
 have Hk := qj hk
 have Hn := qj hn
 clear hk hn hp
 go_enter Tryz.func69, Tryz.ntmps69
 go_wp2_with fail
 refine (check_ok key nonce _ Hk.out Hn.out).mono ?_
 rintro e w1 ⟨rfl, rfl⟩
 go_wp2_with fail
 go_ret
 exact ⟨rfl, gb_refl _ _⟩
theorem seal_yes (key nonce ad plain : ByteArray) (w : World) (hk : key.size = 64) (hn : nonce.size = 12) (hp : plain.size ≤ 1048576) (ha : ad.size ≤ 549755813888) (hx : (xorB key nonce plain).size ≤ 1048576) (hT : Tabs w) :
  Calls Tryz.prog 69 #[.string key, .string nonce, .string ad, .string plain] w fun e w' => e = .returned (.string (xorB key nonce plain ++ tagB key nonce ad (xorB key nonce plain))) ∧ Gn w w' := by
 have t1 : decide ((1048576 : Int) < (plain.size : Int)) = false := dcF
 have Hk := qj hk
 have Hn := qj hn
 have Hp := qj hp
 obtain ⟨C, HC⟩ : ∃ C, Hid (xorB key nonce plain = C) := ⟨_, rfl⟩
 rw [HC.out] at hx ⊢
 obtain ⟨T, HT⟩ : ∃ T, Hid (tagB key nonce ad C = T) := ⟨_, rfl⟩
 have hTs : T.size = 16 := by rw [← HT.out]; exact tagB_size _ _ _ _
 rw [HT.out]
 clear hk hn hp
 go_enter Tryz.func69, Tryz.ntmps69
 go_wp2_with fail
 refine (check_ok key nonce _ Hk.out Hn.out).mono ?_
 rintro e w1 ⟨rfl, rfl⟩
 go_wp2_with fail
 refine (xored_any key nonce plain _ Hk.out (by have := Hp.out; omega)).mono ?_
 rintro e w1 ⟨rfl, g1⟩
 rw [HC.out]
 go_wp2_with fail
 refine (tag_any key nonce ad C _ Hk.out (by have := Hn.out; omega) ha (by omega) (by exact hT.keep g1 (by simp))).mono ?_
 rintro e w2 ⟨rfl, g2⟩
 rw [HT.out]
 go_wp2_with fail
 go_ret
 exact ⟨rfl, gb_none g1 g2⟩
end Go.Proofs.YtpcjbjpofcdjeaaGreatDoor.Bx
namespace Go.Proofs.YtpcjbjpofcdjeaaGreatDoor.Bx
open Go.RowKit Wd Mm Hh
def OpenedIs (r : Option ByteArray) (w : World) (e : Ending) (w' : World) : Prop :=
 ((∃ p, r = some p ∧ e = .returned (.tuple #[.string p, .nilIface])) ∨ (r = none ∧ ∃ p n a c t, e = .returned (.tuple #[.string ⟨#[]⟩, refV p n a]) ∧ w'.heap[a.block]? = some (.cells c t (0, 0)))) ∧ Gn w w'
theorem opened_short (key nonce ad s : ByteArray) (w : World) (hk : key.size = 64) (hn : nonce.size = 12) (hs : s.size < 16) (hE : BErrs w) :
  Calls Tryz.prog 121 #[.string key, .string nonce, .string ad, .string s] w fun e w' => ∃ p n a c t, e = .returned (.tuple #[.string ⟨#[]⟩, refV p n a]) ∧ w'.heap[a.block]? = some (.cells c t (0, 0)) ∧ Gn w w' := by
 have hz2 : wrap64 ((s.size : Int) - 16) = (s.size : Int) - 16 := IntWalk.wrap64_in _ ⟨by omega, by omega⟩
 have t1 : decide (wrap64 ((s.size : Int) - 16) < 0) = true := dcT
 clear hz2
 obtain ⟨a, c, t, k, hb⟩ := hE.2.2.1
 have Hb := qj hb
 have Hk := qj hk
 have Hn := qj hn
 clear hk hn hs hE hb
 go_enter Tryz.func121, Tryz.ntmps121
 go_wp2_with fail
 refine (check_ok key nonce _ Hk.out Hn.out).mono ?_
 rintro e w1 ⟨rfl, rfl⟩
 go_wp2_with fail
 go_region
 go_wp2
 refine bodyPost_ret (v := .tuple #[.string ⟨#[]⟩, refV _ _ _]) (by simp [results, Tryz.results121, go_sem]; rfl) rfl ?_
 exact ⟨_, _, a, c, t, rfl, Hb.out, gb_drew (gb_refl _ _)⟩
theorem opened_long (key nonce ad s : ByteArray) (w : World) (hk : key.size = 64) (hn : nonce.size = 12) (hs : 1048592 < s.size) (hs2 : s.size ≤ 9223372036854775807) (hE : BErrs w) :
  Calls Tryz.prog 121 #[.string key, .string nonce, .string ad, .string s] w fun e w' => ∃ p n a c t, e = .returned (.tuple #[.string ⟨#[]⟩, refV p n a]) ∧ w'.heap[a.block]? = some (.cells c t (0, 0)) ∧ Gn w w' := by
 obtain ⟨m, hm⟩ : ∃ m, s.size = m + 16 := ⟨s.size - 16, by omega⟩
 have hz : wrap64 ((s.size : Int) - 16) = (m : Int) := by rw [IntWalk.wrap64_in _ ⟨by omega, by omega⟩]; omega
 have t1 : decide ((m : Int) < 0) = false := dcF
 have t2 : decide (1048576 < (m : Int)) = true := dcT
 clear hs2 hm
 obtain ⟨a, c, t, k, hb⟩ := hE.2.2.2.1
 have Hb := qj hb
 have Hk := qj hk
 have Hn := qj hn
 clear hk hn hs hE hb
 go_enter Tryz.func121, Tryz.ntmps121
 go_wp2_with fail
 refine (check_ok key nonce _ Hk.out Hn.out).mono ?_
 rintro e w1 ⟨rfl, rfl⟩
 go_wp2_with fail
 go_region
 go_wp2
 refine bodyPost_ret (v := .tuple #[.string ⟨#[]⟩, refV _ _ _]) (by simp [results, Tryz.results121, go_sem]; rfl) rfl ?_
 exact ⟨_, _, a, c, t, rfl, Hb.out, gb_drew (gb_refl _ _)⟩
theorem opened_bad (key nonce ad s : ByteArray) (w : World) (h : ¬ (key.size = 64 ∧ nonce.size = 12)) (hE : BErrs w) :
  Calls Tryz.prog 121 #[.string key, .string nonce, .string ad, .string s] w fun e w' => ∃ p n a c t, e = .returned (.tuple #[.string ⟨#[]⟩, refV p n a]) ∧ w'.heap[a.block]? = some (.cells c t (0, 0)) ∧ Gn w w' := by
 go_enter Tryz.func121, Tryz.ntmps121
 go_wp2_with fail
 refine (check_no key nonce _ h hE).mono ?_
 rintro e w1 ⟨p, n, a, c, t, rfl, hb, rfl⟩
 have Hb := qj hb
 clear hb h hE
 unfold refV
 go_wp2_with fail
 refine bodyPost_ret (v := .tuple #[.string ⟨#[]⟩, refV p n a]) (by simp [results, Tryz.results121, go_sem]; rfl) rfl ?_
 exact ⟨p, n, a, c, t, rfl, Hb.out, gb_refl _ _⟩
theorem opened_fits (key nonce ad s : ByteArray) (m : Nat) (w : World) (hk : key.size = 64) (hn : nonce.size = 12) (hs : s.size = m + 16) (hm : m ≤ 1048576) (ha : ad.size ≤ 549755813888) (hT : Tabs w) (hE : BErrs w) (q : Bool) (hq : q = eqB (s.extract m s.size) (tagB key nonce ad (s.extract 0 m))) (r : Option ByteArray) (hr : r = if q = true then some (xorB key nonce (s.extract 0 m)) else none) :
  Calls Tryz.prog 121 #[.string key, .string nonce, .string ad, .string s] w (OpenedIs r w) := by
 have hz : wrap64 ((s.size : Int) - 16) = (m : Int) := by rw [IntWalk.wrap64_in _ ⟨by omega, by omega⟩]; omega
 have t1 : decide ((m : Int) < 0) = false := dcF
 have t2 : decide (1048576 < (m : Int)) = false := dcF
 have b2 : (m : Int) ≤ (s.size : Int) := by omega
 have b3 : m ≤ s.size := by omega
 have Hk := qj hk
 have Hn := qj hn
 have Hs := qj hs
 have HE := qj hE
 have HQ := qj hq
 have HR := qj hr
 clear hk hn hs hE hq hr
 go_enter Tryz.func121, Tryz.ntmps121
 go_wp2_with fail
 refine (check_ok key nonce _ Hk.out Hn.out).mono ?_
 rintro e w1 ⟨rfl, rfl⟩
 go_wp2_with fail
 go_region
 go_wp2_with fail
 refine (tag_any key nonce ad (s.extract 0 m) _ Hk.out (by have := Hn.out; omega) ha (by rw [ByteArray.size_extract]; omega) (by exact hT.keep (gb_drew (gb_refl w none)) (by simp))).mono ?_
 rintro e w1 ⟨rfl, g1⟩
 replace g1 := gb_none (gb_drew (gb_refl w none)) g1
 have hes : (s.extract m s.size).size ≤ 9223372036854775807 := by rw [ByteArray.size_extract, Hs.out]; omega
 have Hes := qj hes
 clear hes
 go_wp2_with fail
 refine (equal_any _ _ _ Hes.out).mono ?_
 rintro e w2 ⟨rfl, g2⟩
 rw [← HQ.out]
 have g3 := gb_none g1 g2
 clear g1 g2
 cases q with
 | true =>
  have hx : (s.extract 0 m).size ≤ 9223372036854775807 := by rw [ByteArray.size_extract, Hs.out]; omega
  have Hx := qj hx
  clear hx
  go_wp2_with fail
  refine (xored_any key nonce (s.extract 0 m) _ Hk.out Hx.out).mono ?_
  rintro e w3 ⟨rfl, g4⟩
  have g5 := gb_none g3 g4
  clear g3 g4
  go_wp2_with fail
  refine bodyPost_ret (v := .tuple #[.string (xorB key nonce (s.extract 0 m)), .nilIface]) (by simp [results, Tryz.results121, go_sem]) rfl ?_
  exact ⟨.inl ⟨_, HR.out, rfl⟩, g5⟩
 | false =>
  obtain ⟨a, c, t, k, hb⟩ := (HE.out.keep g3).2.2.2.2
  have Hb := qj hb
  clear hb
  go_wp2_with fail
  go_region
  go_wp2
  refine bodyPost_ret (v := .tuple #[.string ⟨#[]⟩, refV _ _ _]) (by simp [results, Tryz.results121, go_sem]; rfl) rfl ?_
  exact ⟨.inr ⟨HR.out, _, _, a, c, t, rfl, Hb.out⟩, gb_drew g3⟩
end Go.Proofs.YtpcjbjpofcdjeaaGreatDoor.Bx
namespace Go.Proofs.YtpcjbjpofcdjeaaGreatDoor.Bx
open Go.RowKit Wd Mm Cc
theorem xb_twice (a b : UInt8) : xb (xb a b) b = a := by
 unfold xb
 rw [UInt8.xor_assoc, UInt8.xor_self, UInt8.xor_zero]
theorem xorS_getD (k n : List UInt8) (c : Int) (bs : List UInt8) (i : Nat) (h : i < bs.length) : (xorS k n c bs).getD i 0 = xb (bs.getD i 0) (keyB k n c i) := by
 rw [List.getD_eq_getElem?_getD, List.getElem?_eq_getElem (by rw [xorS_len]; exact h)]
 simp [xorS]
theorem ext_getD {a b : List UInt8} (hl : a.length = b.length) (h : ∀ i, i < a.length → a.getD i 0 = b.getD i 0) : a = b := by
 apply List.ext_getElem hl
 intro i h1 h2
 have e := h i h1
 rw [List.getD_eq_getElem?_getD, List.getElem?_eq_getElem h1, List.getD_eq_getElem?_getD, List.getElem?_eq_getElem h2] at e
 exact e
theorem xorS_twice (k n : List UInt8) (c : Int) (bs : List UInt8) : xorS k n c (xorS k n c bs) = bs := by
 refine ext_getD (by rw [xorS_len, xorS_len]) (fun i hi => ?_)
 rw [xorS_len, xorS_len] at hi
 rw [xorS_getD _ _ _ _ _ (by rw [xorS_len]; exact hi), xorS_getD _ _ _ _ _ hi, xb_twice]
theorem bytes_ext (a b : ByteArray) (h : a.data.toList = b.data.toList) : a = b := by
 cases a; cases b
 congr 1
 exact Array.ext' h
theorem xorB_data (key nonce s : ByteArray) (hk : key.size = 64) (hn : nonce.size = 12) (hs : s.size ≤ 1048576) : (xorB key nonce s).data.toList = xorS (key.extract 0 32).data.toList nonce.data.toList 1 s.data.toList := by
 unfold xorB
 rw [Cc.ba]
 by_cases h0 : s.size = 0
 ·have e : s.data.toList = [] := List.eq_nil_of_length_eq_zero (by rw [Cc.len_data]; exact h0)
  rw [e, xorA, if_pos List.length_nil]
  exact (List.eq_nil_of_length_eq_zero (by rw [xorS_len]; rfl)).symm
 ·exact xorA_fit _ nonce 1 s h0 ⟨by rw [ByteArray.size_extract]; omega, hn, by omega, by omega⟩
theorem xorB_size (key nonce s : ByteArray) (hk : key.size = 64) (hn : nonce.size = 12) (hs : s.size ≤ 1048576) : (xorB key nonce s).size = s.size := by
 rw [← Cc.len_data, xorB_data key nonce s hk hn hs, xorS_len, Cc.len_data]
theorem xorB_twice (key nonce s : ByteArray) (hk : key.size = 64) (hn : nonce.size = 12) (hs : s.size ≤ 1048576) : xorB key nonce (xorB key nonce s) = s := by
 apply bytes_ext
 rw [xorB_data key nonce _ hk hn (by rw [xorB_size key nonce s hk hn hs]; exact hs), xorB_data key nonce s hk hn hs, xorS_twice]
end Go.Proofs.YtpcjbjpofcdjeaaGreatDoor.Bx
namespace Go.Proofs.YtpcjbjpofcdjeaaGreatDoor.Bx
open Go.RowKit Wd Mm Hh
theorem openB_bad {key nonce ad s : ByteArray} (h : ¬ (key.size = 64 ∧ nonce.size = 12)) : openB key nonce ad s = none := if_neg fun h2 => h ⟨h2.1, h2.2.1⟩
theorem openB_short {key nonce ad s : ByteArray} (h : s.size < 16) : openB key nonce ad s = none := if_neg fun h2 => by omega
theorem openB_long {key nonce ad s : ByteArray} (h : 1048592 < s.size) : openB key nonce ad s = none := if_neg fun h2 => by omega
theorem openB_fits {key nonce ad s : ByteArray} {m : Nat} (hk : key.size = 64) (hn : nonce.size = 12) (hs : s.size = m + 16) (hm : m ≤ 1048576) :
  openB key nonce ad s = if eqB (s.extract m s.size) (tagB key nonce ad (s.extract 0 m)) = true then some (xorB key nonce (s.extract 0 m)) else none := by
 have e : s.size - 16 = m := by omega
 unfold openB eqB
 rw [e]
 by_cases h : s.extract m s.size = tagB key nonce ad (s.extract 0 m)
 ·rw [if_pos ⟨hk, hn, by omega, hm, h⟩, if_pos (decide_eq_true h)]
 ·rw [if_neg (fun h2 => h h2.2.2.2.2), if_neg (by rw [decide_eq_true_eq]; exact h)]
theorem opened_any (key nonce ad s : ByteArray) (w : World) (ha : ad.size ≤ 549755813888) (hs : s.size ≤ 9223372036854775807) (hT : Tabs w) (hE : BErrs w) :
  Calls Tryz.prog 121 #[.string key, .string nonce, .string ad, .string s] w (OpenedIs (openB key nonce ad s) w) := by
 by_cases h : key.size = 64 ∧ nonce.size = 12
 ·by_cases h1 : s.size < 16
  ·refine (opened_short key nonce ad s w h.1 h.2 h1 hE).mono ?_
   rintro e w' ⟨p, n, a, c, t, he, hb, hg⟩
   exact ⟨.inr ⟨openB_short h1, p, n, a, c, t, he, hb⟩, hg⟩
  ·by_cases h2 : 1048592 < s.size
   ·refine (opened_long key nonce ad s w h.1 h.2 h2 hs hE).mono ?_
    rintro e w' ⟨p, n, a, c, t, he, hb, hg⟩
    exact ⟨.inr ⟨openB_long h2, p, n, a, c, t, he, hb⟩, hg⟩
   ·obtain ⟨m, hm⟩ : ∃ m, s.size = m + 16 := ⟨s.size - 16, by omega⟩
    exact opened_fits key nonce ad s m w h.1 h.2 hm (by omega) ha hT hE _ rfl _ (openB_fits h.1 h.2 hm (by omega))
 ·refine (opened_bad key nonce ad s w h hE).mono ?_
  rintro e w' ⟨p, n, a, c, t, he, hb, hg⟩
  exact ⟨.inr ⟨openB_bad h, p, n, a, c, t, he, hb⟩, hg⟩
theorem open_any (key nonce ad s : ByteArray) (w : World) (ha : ad.size ≤ 549755813888) (hs : s.size ≤ 9223372036854775807) (hT : Tabs w) (hE : BErrs w) :
  Calls Tryz.prog 83 #[.string key, .string nonce, .string ad, .string s] w fun e w' => e = .returned (.tuple #[.string (openS key nonce ad s), .bool (openB key nonce ad s).isSome]) ∧ Gn w w' := by
 have Hop := qj (opened_any key nonce ad s w ha hs hT hE)
 unfold openS
 generalize openB key nonce ad s = r at *
 go_enter Tryz.func83, Tryz.ntmps83
 go_wp2_with fail
 refine Hop.out.mono ?_
 rintro e w1 ⟨⟨p, rfl, rfl⟩ | ⟨rfl, p, n, a, c, t, rfl, hb⟩, hg⟩
 ·go_wp2_with fail
  refine (reason_nil _ (hE.keep hg)).mono ?_
  rintro e w2 ⟨rfl, rfl⟩
  go_wp2_with fail
  refine bodyPost_ret (v := .tuple #[.string p, .bool true]) (by simp [results, Tryz.results83, go_sem]) rfl ?_
  exact ⟨rfl, hg⟩
 ·have Hr := qj (reason_some p n a c t w1 hb (hE.keep hg))
  clear hb
  unfold refV at *
  go_wp2_with fail
  refine Hr.out.mono ?_
  rintro e w2 ⟨t, v, rfl, g2⟩
  go_wp2_with fail
  refine bodyPost_ret (v := .tuple #[.string ⟨#[]⟩, .bool false]) (by simp [results, Tryz.results83, go_sem]) rfl ?_
  exact ⟨rfl, gb_none hg g2⟩
theorem seal_any (key nonce ad plain : ByteArray) (w : World) (ha : ad.size ≤ 549755813888) (hT : Tabs w) (hE : BErrs w) :
  Calls Tryz.prog 69 #[.string key, .string nonce, .string ad, .string plain] w fun e w' => e = .returned (.string (sealB key nonce ad plain)) ∧ Gn w w' := by
 by_cases h : key.size = 64 ∧ nonce.size = 12
 ·by_cases hp : plain.size ≤ 1048576
  ·rw [sealB, if_pos ⟨h.1, h.2, hp⟩]
   exact seal_yes key nonce ad plain w h.1 h.2 hp ha (by rw [xorB_size key nonce plain h.1 h.2 hp]; exact hp) hT
  ·rw [sealB, if_neg (fun h2 => hp h2.2.2)]
   exact seal_long key nonce ad plain w h.1 h.2 (by omega)
 ·rw [sealB, if_neg (fun h2 => h ⟨h2.1, h2.2.1⟩)]
  exact seal_no key nonce ad plain w h hE
end Go.Proofs.YtpcjbjpofcdjeaaGreatDoor.Bx
