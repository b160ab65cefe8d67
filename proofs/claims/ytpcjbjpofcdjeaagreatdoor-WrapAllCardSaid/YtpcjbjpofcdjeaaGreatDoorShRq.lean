/- The document's Eight and constants. The document's Sum: its opening (plain lemmas). The document's Sum, within a block: what memory holds (plain lemmas). The document's Sum: the walk. Words for the statements over sums: slices of texts, told; rows of bytes, written one by one. Plain laws. -/
import Derived.Test.YtpcjbjpofcdjeaaGreatDoorShq
import Derived.Great.BuildSlice
import Derived.Laws.OwnMore
import Derived.Deep.Onto
import Derived.Deep.AppendLies
import Derived.Deep.DeepCutAuto
import Derived.Deep.RegionHeld3
import Derived.Deep.DrawnRows
set_option maxHeartbeats 40000000
set_option maxRecDepth 100000
namespace Go.Proofs.YtpcjbjpofcdjeaaGreatDoor.Hh
open Go.RowKit Wd Mm
theorem byte_inf : (Tryz.prog.info? 5).map (fun i => (i.zero, i.size, i.bytes)) = some (some (.int .u8 0), 1, 1) := by kernel_rfl
theorem word_inf : (Tryz.prog.info? 127).map (fun i => (i.zero, i.size, i.bytes)) = some (some (.int .u32 0), 1, 4) := by kernel_rfl
theorem bytes_one (l : List UInt8) : ∀ u ∈ l.map w8, u.oneCell' = true := by
 intro u hu
 simp only [List.mem_map] at hu
 obtain ⟨x, _, rfl⟩ := hu
 rfl
theorem cell_new {w : World} {t : TypeId} (u : Value) : ∀ j v, ([u] : List Value)[j]? = some v → (w.alloc (.cells #[u] t)).cell? ((⟨w.heap.size, 0, none⟩ : Addr).add j) = some v := fun j v hv => by
 have hj : j = 0 := by
  rcases j with _ | j
  ·rfl
  ·simp at hv
 subst hj
 have hadd : (⟨w.heap.size, 0, none⟩ : Addr).add 0 = ⟨w.heap.size, 0, none⟩ := by unfold Addr.add; split <;> simp_all
 rw [hadd, ← hv]
 exact cell_of_row _ _ 0 #[u] t (0, 0) (heap_alloc_new _ _)
theorem own_string {w : World} {base : Nat} {v : Value} {n : Nat} {l : List UInt8} (h : w.ownsRow base 5 1 v n (l.map w8)) (h0 : 0 < n) : (convert 54 9 v).run Tryz.prog w = .ok (.string ⟨l.toArray⟩) w := by
 have hl : l.length = n := by have := h.1; simpa using this
 rcases h.2 with ⟨_, hz⟩ | ⟨g, cap, cur, rfl, _⟩
 ·omega
 ·have r := run_convert_bytes_back (P := Tryz.prog) w 54 9 5 ⟨g, 0, none⟩ cap l Tryz.underlying54 Tryz.underlying5 Tryz.underlying9 (fun j hj => h.cells (g := g) rfl j _ (by simp [hj, w8]))
  rw [hl] at r
  exact r
theorem beBytes_succ (N m k : Nat) (hk : k < m) : (beBytes N m).take (k + 1) = (beBytes N m).take k ++ [highB N m k] := by
 rw [List.take_succ_eq_append_getElem (by rw [beBytes_len]; exact hk)]
 simp [beBytes]
theorem one_int {k : IntKind} (z : Int) : ∀ u ∈ ([.int k z] : List Value), u.oneCell' = true := by
 intro u hu
 rw [List.mem_singleton.1 hu]; rfl
theorem eight_byte (N k q : Nat) (hk : k < 8) (hq : q = 8 * (7 - k)) : Value.int .u8 ((N : Int) / 2 ^ q % 256) = w8 (highB N 8 k) := by
 have h1 : (2 ^ q : Nat) = 256 ^ (8 - 1 - k) := by rw [hq, Nat.pow_mul, show 8 - 1 - k = 7 - k by omega]
 have h2 : (2 : Int) ^ q = ((256 ^ (8 - 1 - k) : Nat) : Int) := by rw [← h1, Int.natCast_pow]; rfl
 unfold w8 highB
 rw [UInt8.toNat_ofNat', h2]
 generalize 256 ^ (8 - 1 - k) = d
 congr 1
theorem eight_any (N : Nat) (w : World) (hN : N ≤ 9223372036854775807) :
  Calls Tryz.prog 76 #[.int .i64 (N : Int)] w fun e w' => e = .returned (.string ⟨(beBytes N 8).toArray⟩) ∧ Gn w w' := by
 have hc1 : IntKind.u64.wrap (N : Int) = (N : Int) := by rw [IntKind.wrap_u64]; omega
 have hc2 : (N : Int) % 18446744073709551616 = (N : Int) := by omega
 obtain ⟨i0, hi0, hz0, hz1, hz2⟩ := info_parts byte_inf
 have Hi0 := qj hi0
 have Hz0 := qj hz0
 have Hz1 := qj hz1
 have Hz2 := qj hz2
 clear hi0 hz0 hz1 hz2
 go_enter Tryz.func76, Tryz.ntmps76
 go_wp2_with fail
 go_loopw [5, 4] (fun i v wr => ∃ k : Nat, k ≤ 8 ∧ i = .int .i64 k ∧ wr.ownsRow w.heap.size 5 1 v k (((beBytes N 8).take k).map w8) ∧ Gn w wr) (fun i _ _ => 8 - (intOf i).toNat)
 case atStart => exact ⟨0, Nat.zero_le _, rfl, World.ownsRow_nil _ _ _ _, gb_refl _ _⟩
 case round =>
  obtain ⟨k, hk, rfl, hown, hg⟩ := hrel
  by_cases hlt : k < 8
  ·have hdec : decide ((k : Int) < 8) = true := dcT
   obtain ⟨m, Hm⟩ : ∃ m : Nat, Hid (m = 8 * k) := ⟨_, rfl⟩
   have hm : 8 * (k : Int) = (m : Int) := by have := Hm.out; omega
   obtain ⟨q, Hq⟩ : ∃ q : Nat, Hid (q + m = 56) := ⟨56 - m, by show _ = _; have := Hm.out; omega⟩
   have hq : 56 - (m : Int) = (q : Int) := by have := Hq.out; omega
   have hq2 : (q : Int) ≤ 56 := by omega
   go_wp2_with (at_builtin; refine wpList_append_own _ rfl (.tmp 12) (.tmp 20) 54 rfl w.heap.size 5 i0 (.int .u8 0) 1 1 Tryz.underlying54 Hi0.out Hz0.out Hz1.out Hz2.out rfl (by decide) _ k _ rfl (hown.alloc _) ⟨wr.heap.size, 0, none⟩ 1 1 [.int .u8 ((N : Int) / 2 ^ q % 256)] rfl rfl (cell_new _) (one_int _) (by simp only [maxLen]; omega) (by omega) (by have := hg.size; simp; omega) ?_; intro v' w' own' grow' _)
   go_roundw
   case rel =>
    refine ⟨k + 1, by omega, by go_num, ?_, gb_step (gb_alloc hg _) grow' (fun i e => .inr (hown.lt i e).1)⟩
    rw [beBytes_succ N 8 k hlt, List.map_append]
    have e : Value.int .u8 ((N : Int) / 2 ^ q % 256) = w8 (highB N 8 k) := eight_byte N k q hlt (by have := Hq.out; have := Hm.out; omega)
    rw [e] at own'
    exact own'
   case measure => simp [intOf]; omega
  ·have hk8 : k = 8 := by omega
   subst hk8
   have hdec : decide (((8 : Nat) : Int) < 8) = false := by decide
   rw [List.take_of_length_le (by rw [beBytes_len]; exact Nat.le_refl _)] at hown
   have hconv := own_string hown (by decide)
   clear hlt hk hown
   go_wp2_with fail
   go_ret
   exact ⟨rfl, hg⟩
def kI : List Int := konst.map fun x => (x.toNat : Int)
theorem kI_cells : (kI.map (Value.int .u32)).toArray = (konst.map w32).toArray := by
 unfold kI
 rw [List.map_map]; rfl
theorem word_size : (Tryz.prog.info? 127).map (·.size) = some 1 := by kernel_rfl
theorem word_zero : ((Tryz.prog.info? 127).bind (·.zero)).isSome = true := by kernel_rfl
theorem constants_any (w : World) :
  Calls Tryz.prog 98 #[] w fun e w' => ∃ g, e = .returned (.slice (some ⟨g, 0, none⟩) 64 64) ∧ w.heap.size ≤ g ∧ Row w' g 127 (konst.map w32).toArray ∧ Gn w w' := by
 go_enter Tryz.func98, Tryz.ntmps98
 go_wp2_with (refine wpList_buildFlat rfl 128 127 64 _ rfl .u32 kI Tryz.underlying128 word_size word_zero (by decide) (by decide) (by decide) (by kernel_rfl) ?_; rw [kI_cells])
 go_ret
 exact ⟨_, rfl, Nat.le_refl _, Row.new _ _ _, gb_alloc (gb_refl _ _) _⟩
end Go.Proofs.YtpcjbjpofcdjeaaGreatDoor.Hh
namespace Go.Proofs.YtpcjbjpofcdjeaaGreatDoor.Hh
open Go.RowKit Wd Mm
def withN (b : List UInt8) (k : Nat) : List UInt8 := b ++ 128 :: List.replicate k 0
theorem withN_zero (b : List UInt8) : (withN b 0).map w8 = b.map w8 ++ [.int .u8 128] := by simp [withN, w8]
theorem withN_succ (b : List UInt8) (k : Nat) : (withN b (k + 1)).map w8 = (withN b k).map w8 ++ [.int .u8 0] := by
 simp [withN, List.replicate_succ', w8]
theorem withN_pad (b : List UInt8) (k : Nat) (hk : k = (119 - b.length % 64) % 64) (hb : 8 * b.length < 18446744073709551616) : (withN b k).map w8 ++ (beBytes (8 * b.length) 8).map w8 = (padB b).map w8 := by
 rw [← List.map_append, hk]
 congr 1
 simp only [withN, padB, tailB, Nat.mod_eq_of_lt hb, List.append_assoc, List.cons_append]
theorem nought_end (n k : Nat) (hk : k ≤ (119 - n % 64) % 64) (h : (n + 1 + k) % 64 = 56) : k = (119 - n % 64) % 64 := by omega
theorem str_cells (l : List UInt8) : Lib.strCells ⟨l.toArray⟩ = l.map w8 := by
 simp [Lib.strCells, w8]
def z64 : Array Value := madeCells (Value.int .u32 0).cells 64
theorem z64_size : z64.size = 64 := size_madeCells _ _
theorem make_any (w : World) : (Instr.makeSlice 128 (.int .i64 64) (.int .i64 64)).run Tryz.prog w = .ok (.slice (some ⟨w.heap.size, 0, none⟩) 64 64) (w.alloc (.cells z64 127)) := by
 obtain ⟨i, hi, hz, hs, hb⟩ := info_parts word_inf
 have h := run_makeSlice (P := Tryz.prog) w 128 127 i (.int .u32 0) Tryz.underlying128 hi hz .i64 .i64 64 64 (by omega) (by omega) (by rw [hs]; decide) (by rw [hb]; decide) (by omega)
 rw [hs] at h
 exact h
theorem own_empty (w : World) (base : Nat) (t : TypeId) (h : base ≤ w.heap.size) : (w.alloc (.cells #[] t)).ownsRow base t 1 (.slice (some ⟨w.heap.size, 0, none⟩) 0 0) 0 [] :=
 ⟨rfl, .inr ⟨w.heap.size, 0, #[], rfl, h, heap_alloc_new w _, Nat.le_refl _, by decide, rfl, rfl⟩⟩
theorem row_news {w : World} {g : Nat} {t : TypeId} {l : List Value} (r : Row w g t l.toArray) : ∀ j u, l[j]? = some u → w.cell? ((⟨g, 0, none⟩ : Addr).add j) = some u := fun j u hu => by
 have hadd : (⟨g, 0, none⟩ : Addr).add j = ⟨g, j, none⟩ := by unfold Addr.add; split <;> simp_all
 rw [hadd]
 exact r.at_ (by simpa using hu)
theorem words_cells (l : List UInt32) : ∀ u ∈ l.map w32, u.oneCell' = true := by
 intro u hu
 simp only [List.mem_map] at hu
 obtain ⟨x, _, rfl⟩ := hu
 rfl
theorem top_0 (x : UInt32) : (x.toNat : Int) / 16777216 % 256 = ((highB x.toNat 4 0).toNat : Int) := highB_walk x.toNat 4 0 (x.toNat / 16777216) rfl
theorem top_1 (x : UInt32) : (x.toNat : Int) / 65536 % 256 = ((highB x.toNat 4 1).toNat : Int) := highB_walk x.toNat 4 1 (x.toNat / 65536) rfl
theorem top_2 (x : UInt32) : (x.toNat : Int) / 256 % 256 = ((highB x.toNat 4 2).toNat : Int) := highB_walk x.toNat 4 2 (x.toNat / 256) rfl
theorem top_3 (x : UInt32) : (x.toNat : Int) % 256 = ((highB x.toNat 4 3).toNat : Int) := highB_walk x.toNat 4 3 x.toNat (by simp)
def tellN (l : List UInt32) (q : Nat) : List UInt8 := (List.range (4 * q)).map (tellF l)
theorem tellF_at (l : List UInt32) (q j : Nat) (hj : j < 4) : tellF l (4 * q + j) = highB (l.getD q 0).toNat 4 j := by
 unfold tellF
 rw [show (4 * q + j) / 4 = q by omega, show (4 * q + j) % 4 = j by omega]
theorem tellN_succ (l : List UInt32) (q : Nat) : tellN l (q + 1) = tellN l q ++ [highB (l.getD q 0).toNat 4 0, highB (l.getD q 0).toNat 4 1, highB (l.getD q 0).toNat 4 2, highB (l.getD q 0).toNat 4 3] := by
 unfold tellN
 rw [show 4 * (q + 1) = 4 * q + 4 by omega, List.range_add, List.map_append]
 congr 1
 have h0 := tellF_at l q 0 (by decide)
 have h1 := tellF_at l q 1 (by decide)
 have h2 := tellF_at l q 2 (by decide)
 have h3 := tellF_at l q 3 (by decide)
 show [tellF l (4 * q + 0), tellF l (4 * q + 1), tellF l (4 * q + 2), tellF l (4 * q + 3)] = _
 rw [h0, h1, h2, h3]
theorem tellN_8 (l : List UInt32) : tellN l 8 = tellB l := rfl
theorem words_at (l : List UInt32) (i : Nat) (h : i < l.length) : (l.map w32).toArray[i]? = some (.int .u32 ((l.getD i 0).toNat : Int)) := by
 simp [h, w32]
theorem own_far {w : World} {base : Nat} {e t : TypeId} {size n g : Nat} {v : Value} {xs : List Value} {cs : Array Value} (h : w.ownsRow base e size v n xs) (hr : Row w g t cs) (hn : e ≠ t) : some g ≠ v.ownBlock := by
 rcases h.2 with ⟨rfl, _⟩ | ⟨g', cap, cur, rfl, _, hh, _⟩
 ·simp [Value.ownBlock]
 ·intro he
  have e2 : g = g' := Option.some.inj he
  subst e2
  have := (show Row w g e cur from hh).symm.trans hr
  injection this with this
  injection this with _ h2
  exact hn h2
end Go.Proofs.YtpcjbjpofcdjeaaGreatDoor.Hh
namespace Go.Proofs.YtpcjbjpofcdjeaaGreatDoor.Hh
open Go.RowKit Wd Mm
theorem bytes_at (p : List UInt8) (i : Nat) (h : i < p.length) : (p.map w8)[i]? = some (.int .u8 ((p.getD i 0).toNat : Int)) := by
 simp [h, w8]
theorem words_at2 (l : List UInt32) (i : Nat) (h : i < l.length) : (l.map w32)[i]? = some (.int .u32 ((l.getD i 0).toNat : Int)) := by
 simp [h, w32]
theorem block_at (p : List UInt8) (a k : Nat) (hk : k < 64) : ((p.drop a).take 64).getD k 0 = p.getD (a + k) 0 := by
 simp only [List.getD_eq_getElem?_getD, List.getElem?_take, if_pos hk, List.getElem?_drop]
theorem be_block (p : List UInt8) (a q : Nat) (hq : q < 16) : be32 (p.getD (a + 4 * q) 0) (p.getD (a + 4 * q + 1) 0) (p.getD (a + 4 * q + 2) 0) (p.getD (a + 4 * q + 3) 0) = (wS ((p.drop a).take 64)).getD q 0 := by
 rw [wS_low _ q hq, beAt, block_at p a _ (by omega), block_at p a _ (by omega), block_at p a _ (by omega), block_at p a _ (by omega)]
 simp only [Nat.add_assoc]
theorem St_list_of (l : List UInt32) (h : l.length = 8) : (St.of l).list = l := by
 match l, h with
 | [_, _, _, _, _, _, _, _], _ => rfl
structure InS (w : World) (bs gm cm M gh gk gw : Nat) (p : List UInt8) (l ws : List UInt32) (n : Nat) (s : St) (v : Value) (wr : World) : Prop where
 iw : ∃ cs : Array Value, cs.size = 64 ∧ (∀ r, r < n → cs[r]? = some (w32 (ws.getD r 0))) ∧ Row wr gw 127 cs
 iv : wr.ownsRow bs 127 1 v 8 (s.list.map w32)
 im : OwnsM wr w.heap.size 5 (.slice (some ⟨gm, 0, none⟩) M cm) M (p.map w8)
 ih : Row wr gh 127 (l.map w32).toArray
 ik : Row wr gk 127 (konst.map w32).toArray
 ig : Gn w wr
section
variable {w : World} {bs gm cm M gh gk gw : Nat} {p : List UInt8} {l ws : List UInt32} {n : Nat} {s : St} {v : Value} {wr : World}
theorem InS.drew (h : InS w bs gm cm M gh gk gw p l ws n s v wr) : InS w bs gm cm M gh gk gw p l ws n s v wr.drew :=
 ⟨h.iw, h.iv, h.im, h.ih, h.ik, gb_drew h.ig⟩
theorem InS.drewN (h : InS w bs gm cm M gh gk gw p l ws n s v wr) (k : Nat) : InS w bs gm cm M gh gk gw p l ws n s v (wr.drewN k) :=
 ⟨h.iw, h.iv, h.im, h.ih, h.ik, gb_drewN h.ig k⟩
theorem InS.byte (h : InS w bs gm cm M gh gk gw p l ws n s v wr) (i : Nat) (hi : i < p.length) : wr.cell? ⟨gm, i, none⟩ = some (.int .u8 ((p.getD i 0).toNat : Int)) :=
 h.im.cell rfl i _ (bytes_at p i hi)
theorem InS.word (h : InS w bs gm cm M gh gk gw p l ws n s v wr) (i : Nat) (hi : i < n) : wr.cell? ⟨gw, i, none⟩ = some (.int .u32 ((ws.getD i 0).toNat : Int)) := by
 obtain ⟨cs, _, hc, hr⟩ := h.iw
 exact hr.at_ (hc i hi)
theorem InS.wfree (h : InS w bs gm cm M gh gk gw p l ws n s v wr) (i : Nat) : wr.frozen? ⟨gw, i, none⟩ = false := by
 obtain ⟨cs, _, hc, hr⟩ := h.iw
 exact hr.free i
theorem InS.whas (h : InS w bs gm cm M gh gk gw p l ws n s v wr) (i : Nat) (hi : i < 64) : ∃ u, wr.cell? ⟨gw, i, none⟩ = some u := by
 obtain ⟨cs, hs, hc, hr⟩ := h.iw
 exact ⟨_, hr.at_ (Array.getElem?_eq_getElem (by omega))⟩
theorem InS.num (h : InS w bs gm cm M gh gk gw p l ws n s v wr) (i : Nat) (hi : i < 64) : wr.cell? ⟨gk, i, none⟩ = some (.int .u32 ((konst.getD i 0).toNat : Int)) :=
 h.ik.at_ (words_at konst i hi)
theorem InS.setW (h : InS w bs gm cm M gh gk gw p l ws n s v wr) (hn : n < 64) (hw : w.heap.size ≤ gw) (hb : gw < bs) (h1 : gm ≠ gw) (h2 : gh ≠ gw) (h3 : gk ≠ gw) :
  InS w bs gm cm M gh gk gw p l ws (n + 1) s v (wr.setCell ⟨gw, n, none⟩ (w32 (ws.getD n 0))) := by
 have hg := gb_set1 wr gw n (w32 (ws.getD n 0))
 obtain ⟨cs, hs, hc, hr⟩ := h.iw
 refine ⟨⟨cs.setIfInBounds n (w32 (ws.getD n 0)), by simpa using hs, fun r hr' => ?_, hr.set_ _ _⟩, h.iv.kept hg ?_, h.im.kept hg (.inr ?_), h.ih.kept hg ?_, h.ik.kept hg ?_, gb_new h.ig hg hw⟩
 ·rw [Array.getElem?_setIfInBounds]
  by_cases e : n = r
  ·subst e; rw [if_pos rfl, if_pos (by omega)]
  ·rw [if_neg e]; exact hc r (by omega)
 ·right
  intro e
  obtain ⟨hb1, _⟩ := h.iv.lt gw e
  omega
 ·simpa [Value.ownBlock] using h1
 ·simpa using h2
 ·simpa using h3
theorem InS.next (h : InS w bs gm cm M gh gk gw p l ws n s v wr) {wr' : World} {s' : St} {v' : Value} (hg : Gn wr wr') (ho : wr'.ownsRow bs 127 1 v' 8 (s'.list.map w32)) :
  InS w bs gm cm M gh gk gw p l ws n s' v' wr' := by
 obtain ⟨cs, hs, hc, hr⟩ := h.iw
 exact ⟨⟨cs, hs, hc, hr.kept hg (by simp)⟩, ho, h.im.kept hg (.inr (by simp [Value.ownBlock])), h.ih.kept hg (by simp), h.ik.kept hg (by simp), gb_none h.ig hg⟩
end
theorem own_at {w : World} {bs g cap n : Nat} {e : TypeId} {xs : List UInt32} (h : w.ownsRow bs e 1 (.slice (some ⟨g, 0, none⟩) n cap) n (xs.map w32)) (i : Nat) (hi : i < n) (hx : xs.length = n) : w.cell? ⟨g, i, none⟩ = some (.int .u32 ((xs.getD i 0).toNat : Int)) := by
 rw [h.cellAt i (by omega)]
 exact words_at2 xs i (by omega)
theorem own_cap8 {w : World} {bs g cap n : Nat} {e : TypeId} {xs : List Value} (h : w.ownsRow bs e 1 (.slice (some ⟨g, 0, none⟩) n cap) n xs) : n ≤ cap := by
 rcases h.2 with ⟨h', _⟩ | ⟨g', cap', cur, h', _, _, h1, _⟩
 ·cases h'
 ·injection h' with _ _ h3
  subst h3
  exact h1
theorem put_comp (l : List UInt32) (b : List UInt8) (hl : l.length = 8) : put (l.map w32).toArray 0 (fun i => w32 ((comp l b).getD i 0)) 8 = ((comp l b).map w32).toArray :=
 put_all _ _ 8 _ (by simp [hl]) (by simp [comp_len l b hl]) fun i hi => words_get _ _ (by rw [comp_len l b hl]; exact hi)
theorem own_one (w : World) (x : UInt32) : (w.alloc (.cells #[.int .u32 (x.toNat : Int)] 127)).ownsRow w.heap.size 127 1 (.slice (some ⟨w.heap.size, 0, none⟩) 1 1) 1 [.int .u32 (x.toNat : Int)] :=
 World.ownsRow_lit w #[.int .u32 (x.toNat : Int)] 1 (Nat.le_refl _) (by decide) rfl
theorem news_seven {w : World} {g : Nat} {a b c d e f gg : UInt32} (h0 : w.cell? ⟨g, 0, none⟩ = some (.int .u32 (a.toNat : Int))) (h1 : w.cell? ⟨g, 1, none⟩ = some (.int .u32 (b.toNat : Int))) (h2 : w.cell? ⟨g, 2, none⟩ = some (.int .u32 (c.toNat : Int))) (h3 : w.cell? ⟨g, 3, none⟩ = some (.int .u32 (d.toNat : Int))) (h4 : w.cell? ⟨g, 4, none⟩ = some (.int .u32 (e.toNat : Int))) (h5 : w.cell? ⟨g, 5, none⟩ = some (.int .u32 (f.toNat : Int))) (h6 : w.cell? ⟨g, 6, none⟩ = some (.int .u32 (gg.toNat : Int))) :
  ∀ j u, ([a, b, c, d, e, f, gg].map w32)[j]? = some u → w.cell? ((⟨g, 0, none⟩ : Addr).add j) = some u := fun j u hu => by
 have hadd : (⟨g, 0, none⟩ : Addr).add j = ⟨g, j, none⟩ := by unfold Addr.add; split <;> simp_all
 rw [hadd]
 match j with
 | 0 => rw [h0]; exact hu
 | 1 => rw [h1]; exact hu
 | 2 => rw [h2]; exact hu
 | 3 => rw [h3]; exact hu
 | 4 => rw [h4]; exact hu
 | 5 => rw [h5]; exact hu
 | 6 => rw [h6]; exact hu
 | k + 7 => simp at hu
theorem news_alloc {w : World} {g : Nat} {o : Obj} {l : List Value} (hg : g < w.heap.size) (h : ∀ j u, l[j]? = some u → w.cell? ((⟨g, 0, none⟩ : Addr).add j) = some u) :
  ∀ j u, l[j]? = some u → (w.alloc o).cell? ((⟨g, 0, none⟩ : Addr).add j) = some u := fun j u hu => by
 have hadd : (⟨g, 0, none⟩ : Addr).add j = ⟨g, j, none⟩ := by unfold Addr.add; split <;> simp_all
 have h1 := h j u hu
 rw [hadd] at h1 ⊢
 rw [World.cell?_of_block (w := w) (a := ⟨g, j, none⟩) (Below.heap_alloc w o g hg)]
 exact h1
end Go.Proofs.YtpcjbjpofcdjeaaGreatDoor.Hh
namespace Go.Proofs.YtpcjbjpofcdjeaaGreatDoor.Hh
open Go.RowKit Wd Mm
attribute [local go_sem] pl_walk pl_wrap xo_walk an_walk nt_walk shr3_walk shr10_walk
attribute [local go_sem ↓] Go.wp_at_zero Go.wp_at_succ
theorem refSum_any (s : ByteArray) (w : World) (hs : s.size ≤ 1099511627776) :
  Calls Tryz.prog 59 #[.string s] w fun e w' => e = .returned (.string ⟨(shaS s.data.toList).toArray⟩) ∧ Gn w w' := by
 obtain ⟨v0, w0, hconv, own0, g0⟩ := convert_any w s (by simp only [maxLen]; omega)
 obtain ⟨i0, hi0, hz0, hz1, hz2⟩ := info_parts byte_inf
 have Hi0 := qj hi0
 have Hz0 := qj hz0
 have Hz1 := qj hz1
 have Hz2 := qj hz2
 clear hi0 hz0 hz1 hz2
 obtain ⟨i1, hi0, hz0, hz1, hz2⟩ := info_parts word_inf
 have Hj0 := qj hi0
 have Hj1 := qj hz0
 have Hj2 := qj hz1
 have Hj3 := qj hz2
 clear hi0 hz0 hz1 hz2
 go_enter Tryz.func59, Tryz.ntmps59
 go_wp2_with (at_builtin; refine wpList_append_ownM _ rfl (.tmp 20) (.tmp 21) 54 rfl w.heap.size 5 i0 (.int .u8 0) 1 Tryz.underlying54 Hi0.out Hz0.out Hz1.out Hz2.out rfl _ s.size _ rfl (own0.alloc _) ⟨w0.heap.size, 0, none⟩ 1 1 [.int .u8 128] rfl rfl (cell_new _) (one_int _) (by simp only [maxLen]; omega) (by omega) (by have := g0.size; simp; omega) ?_; intro v1 w1 own1 grow1)
 have g1 : Gn w w1 := gb_step (gb_alloc g0 _) grow1 (fun i e => .inr (own0.lt i e).1)
 rw [← withN_zero] at own1
 clear grow1 own0 hconv
 obtain ⟨B, HB⟩ : ∃ B : List UInt8, Hid (B = s.data.toList ∧ B.length = s.size) := ⟨_, ⟨rfl, by simp⟩⟩
 have HF := qj (show shaS s.data.toList = shaS B by rw [HB.out.1])
 rw [← HB.out.1] at own1
 go_loopw [3] (fun v wr => ∃ k : Nat, k ≤ (119 - s.size % 64) % 64 ∧ OwnsM wr w.heap.size 5 v (s.size + 1 + k) ((withN B k).map w8) ∧ Gn w wr) (fun v _ => s.size + 65 - lenV v)
 case atStart => exact ⟨0, Nat.zero_le _, own1, g1⟩
 case round =>
  clear own1 g1
  obtain ⟨k, hk, hown, hg⟩ := hrel
  obtain ⟨g, cap, rfl⟩ := owns_slice hown (by omega)
  obtain ⟨L, HL⟩ : ∃ L : Nat, Hid (L = s.size + 1 + k) := ⟨_, rfl⟩
  rw [← HL.out] at hown ⊢
  have hL : L ≤ 1099511627841 := by have := HL.out; omega
  by_cases hlt : L % 64 = 56
  ·have hdec : ((L : Int) % 64 != 56) = false := by rw [bne_eq_false_iff_eq]; omega
   have hkk := qj (nought_end s.size k hk (by rw [← HL.out]; exact hlt))
   have h8 := eight_any (8 * s.size) wr (by omega)
   rw [show ((8 * s.size : Nat) : Int) = 8 * (s.size : Int) by omega] at h8
   clear hk
   go_wp2_with fail
   obtain ⟨E, HE⟩ : ∃ E : ByteArray, Hid (E = ⟨(beBytes (8 * s.size) 8).toArray⟩ ∧ E.size = 8) := ⟨_, ⟨rfl, by show (beBytes (8 * s.size) 8).toArray.size = 8; rw [List.size_toArray, beBytes_len]⟩⟩
   have hE := HE.out.2
   rw [← HE.out.1] at h8
   refine h8.mono ?_
   clear h8
   rintro e w3 ⟨rfl, g3⟩
   have hown3 := hown.kept g3 (.inr (by simp [Value.ownBlock]))
   go_wp2_with (at_builtin; refine wpList_append_own_stringM _ rfl (.tmp 30) (.tmp 34) 54 9 rfl w.heap.size 5 i0 Tryz.underlying54 Tryz.underlying9 Hi0.out Hz0.out Hz1.out Hz2.out _ L _ rfl hown3 _ rfl (by rw [hE]; simp only [maxLen]; omega) (by rw [hE]; omega) (by have := hg.size; have := g3.size; omega) ?_; intro v4 w4 own4 grow4)
   have g4 : Gn w w4 := gb_step (gb_step hg g3 (fun i e => nomatch e)) grow4 (fun i e => .inr (hown3.lt i e).1)
   rw [hE, HE.out.1, str_cells, ← HB.out.2] at own4
   rw [withN_pad B k (by rw [HB.out.2]; exact hkk.out) (by rw [HB.out.2]; omega)] at own4
   obtain ⟨M, HM⟩ : ∃ M : Nat, Hid (M = L + 8 ∧ (padB B).length = M ∧ M % 64 = 0 ∧ M ≤ 1099511627849) := ⟨_, rfl, by have := own4.1; simpa using this, by have h1 := own4.1; have h2 := tailB_len B.length; rw [List.length_map] at h1; rw [padB, List.length_append] at h1; omega, by omega⟩
   rw [← HM.out.1] at own4
   clear grow4 hown3 g3 hg hown HE hE hlt hdec HL hL hkk
   show Calls _ _ _ (w4.alloc (.cells (firstH.map w32).toArray 127)) _
   have own5 := own4.alloc (.cells (firstH.map w32).toArray 127)
   have r5 := Row.new w4 127 (firstH.map w32).toArray
   have g5 := gb_alloc g4 (.cells (firstH.map w32).toArray 127)
   have hgh := g4.size
   obtain ⟨gm, cm, rfl⟩ := owns_slice own4 (by have := HM.out; omega)
   have hgm := own4.lt gm rfl
   have hgm1 : gm ≠ w4.heap.size := by omega
   have hs5 : w4.heap.size < (w4.alloc (.cells (firstH.map w32).toArray 127)).heap.size := r5.lt
   clear own4 g4
   generalize w4.alloc (.cells (firstH.map w32).toArray 127) = w5 at *
   generalize w4.heap.size = gh at *
   clear w4
   refine (constants_any w5).mono ?_
   rintro e w6 ⟨gk, rfl, hgk, rk, g6⟩
   have own6 := own5.kept g6 (.inr (by simp [Value.ownBlock]))
   have r6 := r5.kept g6 (by nofun)
   have g7 := gb_none g5 g6
   have hs6 := g6.size
   have own7 := own6.alloc (.cells z64 127)
   have r7 := r6.alloc (.cells z64 127)
   have rk7 := rk.alloc (.cells z64 127)
   have rw7 := Row.new w6 127 z64
   have g8 := gb_alloc g7 (.cells z64 127)
   have hlm := own6.lt gm rfl
   have hlk := rk.lt
   have hmake := make_any w6
   obtain ⟨w7, hw7⟩ : ∃ w7, Hid (w7 = w6.alloc (.cells z64 127)) := ⟨_, rfl⟩
   obtain ⟨gw, hgw⟩ : ∃ gw, Hid (gw = w6.heap.size) := ⟨_, rfl⟩
   rw [← hgw.out] at hmake rw7 hlm hlk
   have hne : Hid (w.heap.size ≤ gm ∧ w.heap.size ≤ gh ∧ w.heap.size ≤ gk ∧ w.heap.size ≤ gw ∧ gm ≠ gh ∧ gm ≠ gk ∧ gm ≠ gw ∧ gh ≠ gk ∧ gh ≠ gw ∧ gk ≠ gw) := by
    have := hgw.out
    show _ ∧ _
    omega
   rw [← hw7.out] at hmake own7 r7 rk7 rw7 g8
   clear own5 r5 g5 own6 r6 g7 rk hlm hlk hs6 g6 hgk hgh hgm hgm1 hs5
   have hM : M ≤ 1099511627849 := HM.out.2.2.2
   go_wp2_with fail
   clear hmake
   go_loopw [7] (fun a wr => ∃ j : Nat, 64 * j ≤ M ∧ a = .int .i64 ((64 * j : Nat) : Int) ∧ OwnsM wr w.heap.size 5 (.slice (some ⟨gm, 0, none⟩) M cm) M ((padB B).map w8) ∧ Row wr gh 127 ((runB (padB B) j).map w32).toArray ∧ Row wr gk 127 (konst.map w32).toArray ∧ (∃ cs : Array Value, cs.size = 64 ∧ Row wr gw 127 cs) ∧ Gn w wr) (fun a _ => M - (intOf a).toNat)
   case atStart => exact ⟨0, by omega, rfl, own7, r7, rk7, ⟨z64, z64_size, rw7⟩, g8⟩
   case round =>
    clear own7 r7 rk7 rw7 g8
    obtain ⟨j, hj, rfl, hom, hrh, hrk, ⟨cs, hcs, hrw⟩, hg⟩ := hrel
    obtain ⟨at_, hat⟩ : ∃ a : Nat, Hid (a = 64 * j) := ⟨_, rfl⟩
    rw [← hat.out]
    by_cases hlt : at_ < M
    ·have hdec : decide ((at_ : Int) < (M : Int)) = true := dcT
     have hlen := qj (runB_len (padB B) j)
     go_wp2_with (at_builtin; refine wpList_append_own _ rfl (.tmp 45) (.tmp 46) 128 rfl wr.heap.size 127 i1 (.int .u32 0) 1 4 Tryz.underlying128 Hj0.out Hj1.out Hj2.out Hj3.out rfl (by decide) _ 0 _ rfl (own_empty wr _ _ (Nat.le_refl _)) ⟨gh, 0, none⟩ 8 8 ((runB (padB B) j).map w32) rfl (by rw [List.length_map, hlen.out]) (row_news (hrh.alloc _)) (words_cells _) (by decide) (by decide) (by simp) ?_; intro v2 w2 own2 grow2 _)
     have g2 : Gn wr w2 := gb_step (gb_alloc (gb_refl _ _) _) grow2 (fun i e => .inr (Nat.le_of_eq (Option.some.inj e)))
     have hIn : InS w wr.heap.size gm cm M gh gk gw (padB B) (runB (padB B) j) (wS (((padB B).drop at_).take 64)) 0 (rnds (St.of (runB (padB B) j)) (wS (((padB B).drop at_).take 64)) 0) v2 w2 :=
      ⟨⟨cs, hcs, fun r hr => absurd hr (by omega), hrw.kept g2 (by simp)⟩, (by
       show w2.ownsRow _ _ 1 v2 8 ((St.of (runB (padB B) j)).list.map w32)
       rw [St_list_of _ hlen.out]
       simpa using own2), hom.kept g2 (.inr (by simp [Value.ownBlock])), hrh.kept g2 (by simp), hrk.kept g2 (by simp), gb_none hg g2⟩
     have hbw : gw < wr.heap.size := hrw.lt
     have hbs : wr.heap.size ≤ w2.heap.size := g2.size
     have hhb := qj hrh.lt
     have Hcm := qj (owns_cap hom)
     clear hrw hrk hrh hom hg own2 grow2 g2 hcs
     generalize wr.heap.size = bs at *
     clear wr
     have Hnext : Hid (runB (padB B) (j + 1) = comp (runB (padB B) j) (((padB B).drop at_).take 64)) := by show _ = _; rw [hat.out]; rfl
     obtain ⟨Bk, HBk⟩ : ∃ b, Hid (b = ((padB B).drop at_).take 64) := ⟨_, rfl⟩
     rw [← HBk.out] at hIn Hnext
     obtain ⟨l, Hl⟩ : ∃ l, Hid (l = runB (padB B) j) := ⟨_, rfl⟩
     rw [← Hl.out] at hIn Hnext hlen
     have hfit : at_ + 64 ≤ M := by have := HM.out; have := hat.out; omega
     go_wp2_with fail
     go_loopw [9, 8] (fun i v wr => ∃ q : Nat, q ≤ 64 ∧ i = .int .i64 q ∧ InS w bs gm cm M gh gk gw (padB B) l (wS Bk) q (rnds (St.of l) (wS Bk) q) v wr ∧ bs ≤ wr.heap.size) (fun i _ _ => 64 - (intOf i).toNat)
     case atStart => exact ⟨0, Nat.zero_le _, rfl, hIn, hbs⟩
     case round =>
      clear hIn hbs
      obtain ⟨q, hq, rfl, hI, hbs⟩ := hrel
      by_cases hlq : q < 64
      ·have hdq : decide ((q : Int) < 64) = true := dcT
       obtain ⟨gv, cv, rfl, hbv, hlv⟩ := hI.iv.form (by decide)
       obtain ⟨s, Hs⟩ : ∃ s, Hid (s = rnds (St.of l) (wS Bk) q) := ⟨_, rfl⟩
       rw [← Hs.out] at hI
       obtain ⟨a, b, c, d, e, f, g_, h⟩ := s
       go_upto_if 53 with fail
       go_cut [10, 11, 12] (fun _ _ _ wx => InS w bs gm cm M gh gk gw (padB B) l (wS Bk) (q + 1) ⟨a, b, c, d, e, f, g_, h⟩ (.slice (some ⟨gv, 0, none⟩) 8 cv) wx ∧ bs ≤ wx.heap.size)
       case first =>
        by_cases h16 : q < 16
        ·have hd16 : decide ((q : Int) < 16) = true := dcT
         obtain ⟨k4, Hk4⟩ : ∃ k4 : Nat, Hid (k4 = 4 * q) := ⟨_, rfl⟩
         have hk4 : 4 * (q : Int) = (k4 : Int) := by have := Hk4.out; omega
         obtain ⟨k, Hk⟩ : ∃ k : Nat, Hid (k = at_ + k4) := ⟨_, rfl⟩
         have hk : (at_ : Int) + (k4 : Int) = (k : Int) := by have := Hk.out; omega
         have hkM : k + 4 ≤ M := by have := Hk.out; have := Hk4.out; omega
         have hcm : M ≤ cm := Hcm.out.1
         have hcm2 : cm ≤ 9223372036854775807 := by have := Hcm.out.2; unfold maxLen at this; omega
         have hkM2 : (k : Int) + 4 ≤ (M : Int) := by omega
         have c0 := hI.byte k (by have := HM.out.2.1; omega)
         have c1 := hI.byte (k + 1) (by have := HM.out.2.1; omega)
         have c2 := hI.byte (k + 2) (by have := HM.out.2.1; omega)
         have c3 := hI.byte (k + 3) (by have := HM.out.2.1; omega)
         obtain ⟨x0, h0⟩ : ∃ x, (padB B).getD k 0 = x := ⟨_, rfl⟩
         obtain ⟨x1, h1⟩ : ∃ x, (padB B).getD (k + 1) 0 = x := ⟨_, rfl⟩
         obtain ⟨x2, h2⟩ : ∃ x, (padB B).getD (k + 2) 0 = x := ⟨_, rfl⟩
         obtain ⟨x3, h3⟩ : ∃ x, (padB B).getD (k + 3) 0 = x := ⟨_, rfl⟩
         rw [h0] at c0; rw [h1] at c1; rw [h2] at c2; rw [h3] at c3
         have H0 := qj h0
         have H1 := qj h1
         have H2 := qj h2
         have H3 := qj h3
         obtain ⟨v0, hv0⟩ := hI.whas q hlq
         have hf := hI.wfree q
         have hqi : (q : Int) < 64 := by omega
         clear h0 h1 h2 h3
         go_wp2_with fail
         refine wp_region_quiet_tail 25 (by kernel_rfl) (by kernel_rfl) ?_
         simp only [List.take_succ_cons, List.take_zero, List.drop_succ_cons, List.drop_zero]
         iterate 25 (go_big_quiet_step (fail))
         refine wpQuiet_nil ?_
         go_wp2_with fail
         go_meet
         have e : Value.int .u32 ((be32 x0 x1 x2 x3).toNat : Int) = w32 ((wS Bk).getD q 0) := by
          have h := be_block (padB B) at_ q h16
          rw [← Hk4.out, ← Hk.out, H0.out, H1.out, H2.out, H3.out, ← HBk.out] at h
          rw [h]; rfl
         rw [be32_walk x0 x1 x2 x3, e]
         exact ⟨hI.drew.setW hlq hne.out.2.2.2.1 hbw hne.out.2.2.2.2.2.2.1 hne.out.2.2.2.2.2.2.2.2.1 hne.out.2.2.2.2.2.2.2.2.2, by simpa using hbs⟩
        ·have hd16 : decide ((q : Int) < 16) = false := dcF
         have bk : (q : Int) < 64 := by omega
         go_wp2_with fail
         obtain ⟨y0, hy0⟩ : ∃ x, (wS Bk).getD (q - 16) 0 = x := ⟨_, rfl⟩
         obtain ⟨y1, hy1⟩ : ∃ x, (wS Bk).getD (q - 7) 0 = x := ⟨_, rfl⟩
         obtain ⟨y2, hy2⟩ : ∃ x, (wS Bk).getD (q - 15) 0 = x := ⟨_, rfl⟩
         obtain ⟨y3, hy3⟩ : ∃ x, (wS Bk).getD (q - 2) 0 = x := ⟨_, rfl⟩
         obtain ⟨j0, hj0⟩ : ∃ j : Nat, (q : Int) - 16 = (j : Int) := ⟨q - 16, by omega⟩
         obtain ⟨j1, hj1⟩ : ∃ j : Nat, (q : Int) - 7 = (j : Int) := ⟨q - 7, by omega⟩
         obtain ⟨j2, hj2⟩ : ∃ j : Nat, (q : Int) - 15 = (j : Int) := ⟨q - 15, by omega⟩
         obtain ⟨j3, hj3⟩ : ∃ j : Nat, (q : Int) - 2 = (j : Int) := ⟨q - 2, by omega⟩
         have c0 := hI.word j0 (by omega)
         have c1 := hI.word j1 (by omega)
         have c2 := hI.word j2 (by omega)
         have c3 := hI.word j3 (by omega)
         rw [show j0 = q - 16 by omega, hy0, show q - 16 = j0 by omega] at c0
         rw [show j1 = q - 7 by omega, hy1, show q - 7 = j1 by omega] at c1
         rw [show j2 = q - 15 by omega, hy2, show q - 15 = j2 by omega] at c2
         rw [show j3 = q - 2 by omega, hy3, show q - 2 = j3 by omega] at c3
         have b0 : (j0 : Int) < 64 := by omega
         have b1 : (j1 : Int) < 64 := by omega
         have b2 : (j2 : Int) < 64 := by omega
         have b3 : (j3 : Int) < 64 := by omega
         obtain ⟨v0, hv0⟩ := hI.whas q hlq
         have hf := hI.wfree q
         have Hy0 := qj hy0
         have Hy1 := qj hy1
         have Hy2 := qj hy2
         have Hy3 := qj hy3
         clear hy0 hy1 hy2 hy3
         refine wp_region_quiet_lit (by kernel_rfl) (by kernel_rfl) ?_
         iterate 12 (go_big_quiet_step (fail))
         refine wpQuiet_nil ?_
         rintro _ ⟨nq, rfl⟩
         have Hjs := qj (show ((q : Int) - 16 = (j0 : Int)) ∧ ((q : Int) - 7 = (j1 : Int)) ∧ ((q : Int) - 15 = (j2 : Int)) ∧ ((q : Int) - 2 = (j3 : Int)) from ⟨hj0, hj1, hj2, hj3⟩)
         clear hj0 hj1 hj2 hj3
         go_wp2_with fail
         obtain ⟨hj0, hj1, hj2, hj3⟩ := Hjs.out
         refine wp_region_quiet_tail 32 (by kernel_rfl) (by kernel_rfl) ?_
         simp only [List.take_succ_cons, List.take_zero, List.drop_succ_cons, List.drop_zero]
         iterate 14 (go_big_quiet_step (fail))
         go_big_quiet_want; go_big_quiet_op; refine ⟨_, (left_25 _ _).mono (fun _ _ ⟨h1, h2⟩ => ⟨h1, h2.symm⟩), ?_⟩; go_big_quiet_on
         go_big_quiet_step (fail)
         go_big_quiet_want; go_big_quiet_op; refine ⟨_, (left_14 _ _).mono (fun _ _ ⟨h1, h2⟩ => ⟨h1, h2.symm⟩), ?_⟩; go_big_quiet_on
         iterate 6 (go_big_quiet_step (fail))
         go_big_quiet_want; go_big_quiet_op; refine ⟨_, (left_15 _ _).mono (fun _ _ ⟨h1, h2⟩ => ⟨h1, h2.symm⟩), ?_⟩; go_big_quiet_on
         go_big_quiet_step (fail)
         go_big_quiet_want; go_big_quiet_op; refine ⟨_, (left_13 _ _).mono (fun _ _ ⟨h1, h2⟩ => ⟨h1, h2.symm⟩), ?_⟩; go_big_quiet_on
         iterate 6 (go_big_quiet_step (fail))
         refine wpQuiet_nil ?_
         clear hj0 hj1 hj2 hj3
         go_wp2_with fail
         go_meet
         have e : Value.int .u32 ((pl (pl (pl y0 y1) (far y2)) (near y3)).toNat : Int) = w32 ((wS Bk).getD q 0) := by
          rw [wS_high Bk q (by omega) hlq, nextW, Hy0.out, Hy1.out, Hy2.out, Hy3.out]; rfl
         exact ⟨by have h := (hI.drewN nq).drew.setW hlq hne.out.2.2.2.1 hbw hne.out.2.2.2.2.2.2.1 hne.out.2.2.2.2.2.2.2.2.1 hne.out.2.2.2.2.2.2.2.2.2; rw [← e] at h; exact h, by simpa using hbs⟩
       case rest =>
        clear hI hbs hlv
        obtain ⟨hI, hbs⟩ := hcut
        obtain ⟨kk, Hkk⟩ : ∃ x, Hid (x = konst.getD q 0) := ⟨_, rfl⟩
        obtain ⟨ww, Hww⟩ : ∃ x, Hid (x = (wS Bk).getD q 0) := ⟨_, rfl⟩
        have ck := hI.num q hlq
        have cw := hI.word q (by omega)
        rw [← Hkk.out] at ck
        rw [← Hww.out] at cw
        have v0 := own_at (xs := [a, b, c, d, e, f, g_, h]) hI.iv 0 (by decide) rfl
        have v1 := own_at (xs := [a, b, c, d, e, f, g_, h]) hI.iv 1 (by decide) rfl
        have v2 := own_at (xs := [a, b, c, d, e, f, g_, h]) hI.iv 2 (by decide) rfl
        have v3 := own_at (xs := [a, b, c, d, e, f, g_, h]) hI.iv 3 (by decide) rfl
        have v4 := own_at (xs := [a, b, c, d, e, f, g_, h]) hI.iv 4 (by decide) rfl
        have v5 := own_at (xs := [a, b, c, d, e, f, g_, h]) hI.iv 5 (by decide) rfl
        have v6 := own_at (xs := [a, b, c, d, e, f, g_, h]) hI.iv 6 (by decide) rfl
        have v7 := own_at (xs := [a, b, c, d, e, f, g_, h]) hI.iv 7 (by decide) rfl
        simp only [List.getD_cons_zero, List.getD_cons_succ] at v0 v1 v2 v3 v4 v5 v6 v7
        have hcv : 8 ≤ cv := own_cap8 hI.iv
        have hqi : (q : Int) < 64 := by omega
        go_wp2_with fail
        go_quiet ((exact Calls.quiet_of_same ((turnsLow_any _ _).mono fun _ _ ⟨h1, h2⟩ => ⟨h1, h2.symm⟩)))
        go_wp2_with fail
        refine Td.named (fun W => InS w bs gm cm M gh gk gw (padB B) l (wS Bk) (q + 1) ⟨a, b, c, d, e, f, g_, h⟩ (.slice (some ⟨gv, 0, none⟩) 8 cv) W ∧ bs ≤ W.heap.size) ⟨hI.drewN _, by simpa using hbs⟩ ?_
        clear hI hbs v0 v1 v2 v3 v4 v5 v6 v7 ck cw
        rintro W ⟨hI, hbs⟩
        have v0 := own_at (xs := [a, b, c, d, e, f, g_, h]) hI.iv 0 (by decide) rfl
        have v1 := own_at (xs := [a, b, c, d, e, f, g_, h]) hI.iv 1 (by decide) rfl
        have v2 := own_at (xs := [a, b, c, d, e, f, g_, h]) hI.iv 2 (by decide) rfl
        simp only [List.getD_cons_zero, List.getD_cons_succ] at v0 v1 v2
        go_quiet ((exact Calls.quiet_of_same ((turnsHigh_any _ _).mono fun _ _ ⟨h1, h2⟩ => ⟨h1, h2.symm⟩)))
        clear v0 v1 v2
        replace hI := hI.drewN nq
        replace hbs : bs ≤ (W.drewN nq).heap.size := hbs
        generalize W.drewN nq = W2 at *
        clear W
        obtain ⟨W, rfl⟩ : ∃ W, W = W2 := ⟨_, rfl⟩
        have hnews := news_seven (own_at (xs := [a, b, c, d, e, f, g_, h]) hI.iv 0 (by decide) rfl) (own_at (xs := [a, b, c, d, e, f, g_, h]) hI.iv 1 (by decide) rfl) (own_at (xs := [a, b, c, d, e, f, g_, h]) hI.iv 2 (by decide) rfl) (own_at (xs := [a, b, c, d, e, f, g_, h]) hI.iv 3 (by decide) rfl) (own_at (xs := [a, b, c, d, e, f, g_, h]) hI.iv 4 (by decide) rfl) (own_at (xs := [a, b, c, d, e, f, g_, h]) hI.iv 5 (by decide) rfl) (own_at (xs := [a, b, c, d, e, f, g_, h]) hI.iv 6 (by decide) rfl)
        simp only [List.getD_cons_zero, List.getD_cons_succ] at hnews
        have Hnews := qj hnews
        have hgvl : gv < W.heap.size := (hI.iv.lt gv rfl).2
        clear hnews
        go_wp2_with (at_builtin; refine wpList_append_own _ rfl (.tmp 193) (.tmp 195) 128 rfl W.heap.size 127 i1 (.int .u32 0) 1 4 Tryz.underlying128 Hj0.out Hj1.out Hj2.out Hj3.out rfl (by decide) _ 1 _ rfl (own_one W _) ⟨gv, 0, none⟩ 7 cv ([a, b, c, d, e, f, g_].map w32) rfl rfl (news_alloc hgvl Hnews.out) (words_cells _) (by decide) (by decide) (by simp) ?_; intro v' w' own' grow' _; obtain ⟨g', c', rfl, hb', hl'⟩ := own'.form (by decide); have hc4 : w'.cell? ⟨g', 4, none⟩ = some (.int .u32 (d.toNat : Int)) := own'.cellAt 4 (by decide); have hf4 := own'.frozenAt 4; have hc8 := own_cap8 own')
        go_roundw
        case rel =>
         have hadd : List.map w32 [pl (tOf ⟨a, b, c, d, e, f, g_, h⟩ kk ww) (uOf ⟨a, b, c, d, e, f, g_, h⟩), a, b, c, pl d (tOf ⟨a, b, c, d, e, f, g_, h⟩ kk ww), e, f, g_] = (rnd ⟨a, b, c, d, e, f, g_, h⟩ kk ww).list.map w32 := rfl
         have hst := own'.stored 4 (w32 (pl d (tOf ⟨a, b, c, d, e, f, g_, h⟩ kk ww)))
         have hown2 : (w'.setCell ⟨g', 4, none⟩ (w32 (pl d (tOf ⟨a, b, c, d, e, f, g_, h⟩ kk ww)))).ownsRow W.heap.size 127 1 (.slice (some ⟨g', 0, none⟩) 8 c') 8 ((rnd ⟨a, b, c, d, e, f, g_, h⟩ kk ww).list.map w32) := hst.1
         have hgr : W.grownBy (w'.setCell ⟨g', 4, none⟩ (w32 (pl d (tOf ⟨a, b, c, d, e, f, g_, h⟩ kk ww)))) none := gb_step (gb_step (gb_alloc (gb_refl _ _) _) grow' (fun i e => .inr (Nat.le_of_eq (Option.some.inj e)))) hst.2 (fun i e => .inr (by cases e; exact hb'))
         have hIn2 := hI.next hgr (hown2.mono hbs)
         have hrs : rnd ⟨a, b, c, d, e, f, g_, h⟩ kk ww = rnds (St.of l) (wS Bk) (q + 1) := by rw [rnds, ← Hs.out, Hkk.out, Hww.out]
         rw [hrs] at hIn2
         refine ⟨q + 1, by omega, by go_num, ?_, ?_⟩
         ·exact hIn2
         ·exact Nat.le_trans hbs hgr.size
        case measure => simp [intOf]; omega
      ·have hq64 : q = 64 := by omega
       subst hq64
       have hdq : decide (((64 : Nat) : Int) < 64) = false := by decide
       have Hcomp := qj (fun r hr => comp_getD l Bk r hlen.out hr)
       obtain ⟨gv, cv, rfl, hbv, hlv⟩ := hI.iv.form (by decide)
       obtain ⟨s, Hs⟩ : ∃ s, Hid (s = (rnds (St.of l) (wS Bk) 64).list ∧ s.length = 8) := ⟨_, rfl, rfl⟩
       have hv := hI.iv
       have hm := hI.im
       have hh := hI.ih
       have hkr := hI.ik
       have hgr := hI.ig
       have hcv : 8 ≤ cv := own_cap8 hI.iv
       have hw := hI.iw
       rw [← Hs.out.1] at hv
       clear hI hlq hq
       obtain ⟨wo, rfl⟩ : ∃ wo : World, wo = wr := ⟨_, rfl⟩
       go_wp2_with fail
       go_loopw [15] (fun i wr => ∃ r : Nat, r ≤ 8 ∧ i = .int .i64 r ∧ Row wr gh 127 (put (l.map w32).toArray 0 (fun i => w32 ((comp l Bk).getD i 0)) r) ∧ wr.ownsRow bs 127 1 (.slice (some ⟨gv, 0, none⟩) 8 cv) 8 (s.map w32) ∧ OwnsM wr w.heap.size 5 (.slice (some ⟨gm, 0, none⟩) M cm) M ((padB B).map w8) ∧ Row wr gk 127 (konst.map w32).toArray ∧ (∃ cs : Array Value, cs.size = 64 ∧ Row wr gw 127 cs) ∧ Gn w wr) (fun i _ => 8 - (intOf i).toNat)
       case atStart =>
        obtain ⟨cs, hcs, _, hrw⟩ := hw
        exact ⟨0, Nat.zero_le _, rfl, hh, hv, hm, hkr, ⟨cs, hcs, hrw⟩, hgr⟩
       case round =>
        clear hv hm hh hkr hgr hw hlv
        obtain ⟨r, hr, rfl, hh, hv, hm, hkr, ⟨cs, hcs, hrw⟩, hgr⟩ := hrel
        by_cases hlr : r < 8
        ·have hdr : decide ((r : Int) < 8) = true := dcT
         have bk : (r : Int) < 8 := by omega
         obtain ⟨x, Hx⟩ : ∃ x, Hid (x = l.getD r 0) := ⟨_, rfl⟩
         obtain ⟨y, Hy⟩ : ∃ y, Hid (y = s.getD r 0) := ⟨_, rfl⟩
         have cx : wr.cell? ⟨gh, r, none⟩ = some (.int .u32 (x.toNat : Int)) := by
          refine hh.at_ ?_
          rw [put_get, if_neg (by omega), words_at l r (by rw [hlen.out]; exact hlr), Hx.out]
         have cy : wr.cell? ⟨gv, r, none⟩ = some (.int .u32 (y.toNat : Int)) := by
          rw [own_at hv r hlr Hs.out.2, Hy.out]
         have hf : wr.frozen? ⟨gh, r, none⟩ = false := hh.free _
         go_wp2_with fail
         refine wp_region_quiet_tail 10 (by kernel_rfl) (by kernel_rfl) ?_
         simp only [List.take_succ_cons, List.take_zero, List.drop_succ_cons, List.drop_zero]
         iterate 10 (go_big_quiet_step (fail))
         refine wpQuiet_nil ?_
         go_wp2_with fail
         go_roundw
         case rel =>
          have e : w32 ((comp l Bk).getD r 0) = .int .u32 ((pl x y).toNat : Int) := by
           rw [Hcomp.out r hlr, ← Hs.out.1, Hx.out, Hy.out]; rfl
          have g1 := gb_set1 wr.drew gh r (.int .u32 ((pl x y).toNat : Int))
          refine ⟨r + 1, by omega, by go_num, ?_, hv.drew.kept g1 ?_, hm.drew.kept g1 (.inr ?_), hkr.drew.kept g1 ?_, ⟨cs, hcs, hrw.drew.kept g1 ?_⟩, gb_new (gb_drew hgr) g1 hne.out.2.1⟩
          ·have h := hh.drew.set_ r (w32 ((comp l Bk).getD r 0))
           rw [e] at h
           simp only [put, Nat.zero_add]
           rw [e]
           exact h
          ·right
           intro e
           have e2 : gv = gh := Option.some.inj e
           have := hhb.out
           omega
          ·have := hne.out.2.2.2.2.1
           simpa [Value.ownBlock] using this
          ·have := hne.out.2.2.2.2.2.2.2.1
           simpa using fun e => this e.symm
          ·have := hne.out.2.2.2.2.2.2.2.2.1
           simpa using fun e => this e.symm
         case measure => simp [intOf]; omega
        ·have hr8 : r = 8 := by omega
         subst hr8
         have hdr : decide (((8 : Nat) : Int) < 8) = false := by decide
         rw [put_comp l Bk hlen.out, ← Hnext.out] at hh
         clear hlr hr hv
         go_wp2_with fail
         go_roundw
         case rel =>
          refine ⟨j + 1, by have := HM.out; have := hat.out; omega, ?_, hm, hh, hkr, ⟨cs, hcs, hrw⟩, hgr⟩
          exact congrArg (Value.int .i64) (by have := hat.out; omega)
         case measure =>
          have := hat.out
          simp [intOf]; omega
    ·have hdec : decide ((at_ : Int) < (M : Int)) = false := dcF
     have Hres : Hid (shaS B = tellB (runB (padB B) j)) := by
      show shaS B = _
      have h1 := HM.out
      have h2 := hat.out
      unfold shaS
      rw [h1.2.1]
      congr 2
      omega
     have hlen := qj (runB_len (padB B) j)
     generalize runB (padB B) j = res at *
     go_wp2_with fail
     go_loopw [16, 17] (fun v i wr => ∃ q : Nat, q ≤ 8 ∧ i = .int .i64 q ∧ wr.ownsRow w.heap.size 5 1 v (4 * q) ((tellN res q).map w8) ∧ Row wr gh 127 (res.map w32).toArray ∧ Gn w wr) (fun _ i _ => 8 - (intOf i).toNat)
     case atStart => exact ⟨0, Nat.zero_le _, rfl, World.ownsRow_nil _ _ _ _, hrh, hg⟩
     case round =>
      clear hrh hrk hrw hom hg
      obtain ⟨q, hq, rfl, hown, hr, hg⟩ := hrel
      by_cases hlq : q < 8
      ·have hdq : decide ((q : Int) < 8) = true := dcT
       have hiq : (q : Int) < 8 := by omega
       have cx : wr.cell? ⟨gh, q, none⟩ = some (.int .u32 ((res.getD q 0).toNat : Int)) := hr.at_ (words_at _ _ (by rw [hlen.out]; exact hlq))
       obtain ⟨x, Hx⟩ : ∃ x, Hid (x = res.getD q 0) := ⟨_, rfl⟩
       rw [← Hx.out] at cx
       have y0 := top_0 x
       have y1 := top_1 x
       have y2 := top_2 x
       have y3 := top_3 x
       have hgs := hg.size
       have Hs : Hid (w.heap.size ≤ ((wr.drew.alloc (.cells ([highB x.toNat 4 0, highB x.toNat 4 1, highB x.toNat 4 2, highB x.toNat 4 3].map w8).toArray 5))).heap.size) := by show _ ≤ _; simp; omega
       have Hm : Hid (4 * q + 4 ≤ maxLen ∧ (4 * q + 4) * 1 ≤ 140737488355328) := by show _ ∧ _; simp only [maxLen]; omega
       go_wp2_with fail
       have hgh : gh < wr.heap.size := hr.lt
       have hfar := own_far hown hr (by decide)
       have hi0' : (0 : Int) ≤ (q : Int) := Int.natCast_nonneg _
       have hwr2 : w.heap.size ≤ wr.heap.size + 1 := by omega
       have z0 : IntKind.u8.wrap ((x.toNat : Int) / 16777216) = ((highB x.toNat 4 0).toNat : Int) := by rw [IntKind.wrap_u8]; exact y0
       have z1 : IntKind.u8.wrap ((x.toNat : Int) / 65536) = ((highB x.toNat 4 1).toNat : Int) := by rw [IntKind.wrap_u8]; exact y1
       have z2 : IntKind.u8.wrap ((x.toNat : Int) / 256) = ((highB x.toNat 4 2).toNat : Int) := by rw [IntKind.wrap_u8]; exact y2
       have z3 : IntKind.u8.wrap (x.toNat : Int) = ((highB x.toNat 4 3).toNat : Int) := by rw [IntKind.wrap_u8]; exact y3
       go_region_held3 (fun w' => w'.cell? ⟨gh, q, none⟩ = some (.int .u32 (x.toNat : Int))) (first | go_keep | (rw [hgrow.cell_far _ (by simp; omega) hfar]; assumption))
        ((refine step_append_lies _ (by rfl) _ _ _ (by rfl) w.heap.size 5 i0 (.int .u8 0) 1 1 Tryz.underlying54 Hi0.out Hz0.out Hz1.out Hz2.out rfl (by decide) _ (4 * q) _ (by rfl) ((hown.alloc _).drew) ⟨wr.heap.size, 0, none⟩ 4 4 ([highB x.toNat 4 0, highB x.toNat 4 1, highB x.toNat 4 2, highB x.toNat 4 3].map w8) (by rfl) (by rfl) (World.news_of_block (cs := ([highB x.toNat 4 0, highB x.toNat 4 1, highB x.toNat 4 2, highB x.toNat 4 3].map w8).toArray) (t := 5) (fr := (0, 0)) (heap_alloc_new wr _)) (bytes_one _) (by decide) Hm.out.1 Hm.out.2 (by simp; omega) (wr.heap.size + 1) (by simp) ?_; intro g' cap' w' own' hgrow hat hlt'))
       go_wp2_with fail
       go_roundw
       case rel =>
        refine ⟨q + 1, by omega, by go_num, ?_, ((hr.alloc _).drew).kept hgrow hfar, gb_step (gb_drew (gb_alloc hg _)) hgrow (fun i e => .inr (hown.lt i e).1)⟩
        rw [tellN_succ, ← Hx.out, List.map_append]
        exact own'
       case measure => simp [intOf]; omega
      ·have hq8 : q = 8 := by omega
       subst hq8
       have hdq : decide (((8 : Nat) : Int) < 8) = false := by decide
       have hconv := own_string hown (by decide)
       clear hlq hq hown
       go_wp2_with fail
       go_ret
       rw [tellN_8, ← Hres.out, ← HF.out]
       exact ⟨rfl, hg⟩
  ·have hdec : ((L : Int) % 64 != 56) = true := by rw [bne_iff_ne]; omega
   go_wp2_with (at_builtin; refine wpList_append_ownM _ rfl (.tmp 27) (.tmp 28) 54 rfl w.heap.size 5 i0 (.int .u8 0) 1 Tryz.underlying54 Hi0.out Hz0.out Hz1.out Hz2.out rfl _ L _ rfl (hown.alloc _) ⟨wr.heap.size, 0, none⟩ 1 1 [.int .u8 0] rfl rfl (cell_new _) (one_int _) (by simp only [maxLen]; omega) (by omega) (by have := hg.size; simp; omega) ?_; intro v2 w2 own2 grow2)
   go_roundw
   case rel =>
    refine ⟨k + 1, by have := HL.out; have := hk; omega, ?_, gb_step (gb_alloc hg _) grow2 (fun i e => .inr (hown.lt i e).1)⟩
    rw [withN_succ, ← Nat.add_assoc, ← HL.out]
    exact own2
   case measure =>
    have h2 := owns_len own2
    have h3 : lenV (.slice (some ⟨g, 0, none⟩) L cap) = L := rfl
    have := HL.out
    omega
end Go.Proofs.YtpcjbjpofcdjeaaGreatDoor.Hh
namespace Go.Proofs.YtpcjbjpofcdjeaaGreatDoor.Hh
open Go.RowKit Wd Mm Td
def strsV (n : Nat) (ss : List ByteArray) : Td.Spec := fun (W : World) (v : Value) => ∃ A c, v = Value.slice A n c ∧ Strs W A n ss
theorem strs_stays {n : Nat} {ss : List ByteArray} : Stays (fun a b => Gn a b) (strsV n ss) := fun _ _ _ h ⟨A, c, e, hs⟩ => ⟨A, c, e, hs.keep h⟩
theorem strs_new2 (w : World) (p q : ByteArray) (o : Obj) (ho : o = .cells #[.string p, .string q] 9 (0, 0)) : Strs (w.alloc o) (some ⟨w.heap.size, 0, none⟩) 2 [p, q] := by
 subst ho
 refine ⟨rfl, fun _ => ⟨w.heap.size, 0, rfl, by simp, fun i hi => ?_⟩⟩
 have h : i = 0 ∨ i = 1 := by omega
 rcases h with rfl | rfl
 ·exact cell_of_row _ _ 0 #[.string p, .string q] 9 (0, 0) (heap_alloc_new _ _)
 ·exact cell_of_row _ _ 1 #[.string p, .string q] 9 (0, 0) (heap_alloc_new _ _)
theorem two_small (p q : ByteArray) (h : p.size ≤ 9223372036854775807) (h2 : q.size ≤ 9223372036854775807) : ∀ j, j < 2 → ([p, q].getD j ByteArray.empty).size ≤ 9223372036854775807 := fun j hj => by
 have e : j = 0 ∨ j = 1 := by omega
 rcases e with rfl | rfl
 ·exact h
 ·exact h2
theorem catB_two (p q : ByteArray) : catB [p, q] = (p ++ q).data.toList := by
 simp [catB, ByteArray.data_append]
theorem catB_three (p q r : ByteArray) : catB [p, q, r] = (p ++ q ++ r).data.toList := by
 simp [catB, ByteArray.data_append]
theorem strs_new3 (w : World) (p q r : ByteArray) (o : Obj) (ho : o = .cells #[.string p, .string q, .string r] 9 (0, 0)) : Strs (w.alloc o) (some ⟨w.heap.size, 0, none⟩) 3 [p, q, r] := by
 subst ho
 refine ⟨rfl, fun _ => ⟨w.heap.size, 0, rfl, by simp, fun i hi => ?_⟩⟩
 have h : i = 0 ∨ i = 1 ∨ i = 2 := by omega
 rcases h with rfl | rfl | rfl
 ·exact cell_of_row _ _ 0 #[.string p, .string q, .string r] 9 (0, 0) (heap_alloc_new _ _)
 ·exact cell_of_row _ _ 1 #[.string p, .string q, .string r] 9 (0, 0) (heap_alloc_new _ _)
 ·exact cell_of_row _ _ 2 #[.string p, .string q, .string r] 9 (0, 0) (heap_alloc_new _ _)
def sumB (s : ByteArray) : ByteArray := ⟨(shaS s.data.toList).toArray⟩
theorem sumB_size (s : ByteArray) : (sumB s).size = 32 := by rw [← len_data]; unfold sumB; rw [ba]; exact shaS_len _
theorem sum_text (ss : List ByteArray) (s : ByteArray) (h : catB ss = s.data.toList) : (⟨(shaS (catB ss)).toArray⟩ : ByteArray) = sumB s := by rw [h]; rfl
def madeB (n : Nat) : Array Value := madeCells #[.int .u8 0] n
theorem madeB_eq (n : Nat) : madeB n = ((List.replicate n (0 : UInt8)).map w8).toArray := by
 unfold madeB
 apply Array.ext_getElem?
 intro i
 by_cases h : i < n
 ·simp [madeCells, h, w8, Nat.mod_one]
 ·rw [Array.getElem?_eq_none (by rw [size_madeCells]; omega), Array.getElem?_eq_none (by simp; omega)]
theorem makeB_at (n : Nat) (hn : n ≤ 1024) (W : World) : (Instr.makeSlice 54 (.int .i64 (n : Int)) (.int .i64 (n : Int))).run Tryz.prog W = .ok (.slice (some ⟨W.heap.size, 0, none⟩) n n) (W.alloc (.cells (madeB n) 5)) := by
 obtain ⟨i, hi, hz, hs, hb⟩ := info_parts byte_inf
 have h := run_makeSlice (P := Tryz.prog) W 54 5 i (.int .u8 0) Tryz.underlying54 hi hz .i64 .i64 n n (by omega) (by omega) (by rw [hs]; omega) (by rw [hb]; omega) (by omega)
 simpa [hs, Value.cells, madeB] using h
theorem row_string {w : World} {g : Nat} {l : List UInt8} (h : Row w g 5 (l.map w8).toArray) (c : Nat) : (convert 54 9 (.slice (some ⟨g, 0, none⟩) l.length c)).run Tryz.prog w = .ok (.string ⟨l.toArray⟩) w :=
 run_convert_bytes_back (P := Tryz.prog) w 54 9 5 ⟨g, 0, none⟩ c l Tryz.underlying54 Tryz.underlying5 Tryz.underlying9 (row_bytes h)
end Go.Proofs.YtpcjbjpofcdjeaaGreatDoor.Hh
