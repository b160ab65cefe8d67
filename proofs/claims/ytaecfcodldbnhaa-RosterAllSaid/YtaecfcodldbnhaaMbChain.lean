/- Rows of records turned in place; the law's Chain. Written by gen_mbchain.py. -/
import Derived.Test.YtaecfcodldbnhaaMbLaw
import Derived.Deep.AppendLies
import Derived.Maps.AppendAt
import Derived.ArgAppend
import Derived.Deep.DeepCutAuto
set_option linter.unusedVariables false
namespace Go.Proofs.Ytaecfcodldbnhaa.Mb
open Go Go.RowKit Go.Proofs.Ytaecfcodldbnhaa.Mm Go.Proofs.Ytaecfcodldbnhaa.Td Go.Proofs.Ytaecfcodldbnhaa.Vw Go.Proofs.Ytaecfcodldbnhaa.Dt

open Go.Proofs.Ytaecfcodldbnhaa.Me
attribute [local go_sem] Td.upon_value Td.upon_skip Td.upon_enter Td.upon_row Td.look_tmp Td.look_const Td.look_func Td.look_global
theorem rec_inf : (Try.prog.info? 32).map (fun i => (i.zero, i.size, i.bytes)) = some (some (.agg #[.int .i64 0, .string ⟨#[]⟩, .int .i64 0, .int .i64 0, .slice none 0 0, .string ⟨#[]⟩]), 6, 80) := by kernel_rfl
theorem rec_parts : ∃ i, Try.prog.info? 32 = some i ∧ i.zero = some (.agg #[.int .i64 0, .string ⟨#[]⟩, .int .i64 0, .int .i64 0, .slice none 0 0, .string ⟨#[]⟩]) ∧ i.size = 6 ∧ i.bytes = 80 := by
  obtain ⟨i, hi, h⟩ := Option.map_eq_some_iff.1 rec_inf
  simp only [Prod.mk.injEq] at h
  exact ⟨i, hi, h.1, h.2.1, h.2.2⟩
def Bare (l : List Rc) : Prop := ∀ r ∈ l, r.wraps = []
theorem own_past {w : World} {B b i : Nat} {e : TypeId} {s : Nat} {v : Value} {n : Nat} {xs : List Value} {x : Value} (h : w.ownsRow B e s v n xs) (hv : ∀ j, v.ownBlock = some j → j ≠ b) : (w.setCell ⟨b, i, none⟩ x).ownsRow B e s v n xs := by
  refine World.ownsRow.kept h (gb_set1 w b i x) ?_
  cases hb : v.ownBlock with
  | none => exact .inl rfl
  | some q => exact .inr (by simpa using hv q hb)
/-- A new row as one's own. -/
theorem own_new (w : World) (l : List Rc) (n : Nat) (cs : Array Value) (hc : cs.toList = bv l) (hn : l.length = n) (h0 : n ≤ 1000) : (w.alloc (.cells cs 32)).ownsRow w.heap.size 32 6 (.slice (some ⟨w.heap.size, 0, none⟩) n n) n (bv l) := by
  have hl : cs.size = n * 6 := by rw [← Array.length_toList, hc, bv_len, hn]
  refine ⟨by rw [bv_len, hn], .inr ⟨w.heap.size, n, cs, rfl, Nat.le_refl _, heap_alloc_new w _, Nat.le_refl _, by simp only [maxLen]; omega, hl, ?_⟩⟩
  rw [hc, List.take_of_length_le (by rw [bv_len]; omega)]
/-- A block that holds these records, one behind the other, from its begin on. -/
def RowLog (W : World) (g cap : Nat) (l : List Rc) : Prop := ∃ cs : Array Value, Row W g 32 cs ∧ cs.size = cap * 6 ∧ l.length ≤ cap ∧ (∀ (j : Nat) (u : Value), (bv l)[j]? = some u → cs[j]? = some u) ∧ Bare l
theorem own_rowlog {w : World} {B n : Nat} {v : Value} {l : List Rc} (h : w.ownsRow B 32 6 v n (bv l)) (hn : l.length = n) (h0 : 0 < n) (hb : Bare l) : ∃ g cap, v = .slice (some ⟨g, 0, none⟩) n cap ∧ B ≤ g ∧ RowLog w g cap l := by
  rcases h.2 with ⟨_, h1⟩ | ⟨g, cap, cur, rfl, hB, hg, hle, _, hs, ht⟩
  · exact absurd h0 (by omega)
  · refine ⟨g, cap, rfl, hB, cur, hg, hs, by omega, fun j u hu => ?_, hb⟩
    rw [← ht, List.getElem?_take] at hu
    split at hu
    · rwa [Array.getElem?_toList] at hu
    · cases hu
theorem RowLog.cell {W : World} {g cap : Nat} {l : List Rc} (h : RowLog W g cap l) {i : Nat} {r : Rc} (hr : l[i]? = some r) (j : Nat) (hj : j < 6) : W.cell? ⟨g, i * 6 + j, none⟩ = (bv1 r)[j]? := by
  obtain ⟨cs, hrow, _, _, hc, _⟩ := h
  have h1 := bv_at l i r hr j hj
  have h2 : j < (bv1 r).length := by simp [bv1]; omega
  rw [List.getElem?_eq_getElem h2] at h1 ⊢
  exact hrow.at_ (hc _ _ h1)
theorem RowLog.free {W : World} {g cap : Nat} {l : List Rc} (h : RowLog W g cap l) (j : Nat) : W.frozen? ⟨g, j, none⟩ = false := by
  obtain ⟨cs, hrow, _⟩ := h
  exact hrow.free j
theorem RowLog.log {W : World} {g cap : Nat} {l : List Rc} (h : RowLog W g cap l) : LogL W (some ⟨g, 0, none⟩) l.length l := by
  obtain ⟨cs, hrow, _, _, hc, hb⟩ := h
  refine ⟨rfl, fun _ => ⟨g, 0, rfl, hrow.lt, fun i x hx => ?_⟩⟩
  have hat : ∀ j u, (bv l)[j]? = some u → W.cell? ⟨g, 0 + j, none⟩ = some u := fun j u hu => by
    rw [Nat.zero_add]
    exact hrow.at_ (hc _ _ hu)
  have r := bv_at l i x hx
  have hw := hb x (List.mem_of_getElem? hx)
  refine ⟨none, 0, hat _ _ (r 0 (by decide)), hat _ _ (r 1 (by decide)), hat _ _ (r 2 (by decide)), hat _ _ (r 3 (by decide)), ?_, hat _ _ (r 5 (by decide)), ?_, ?_⟩
  · rw [hw]; exact hat _ _ (r 4 (by decide))
  · rw [hw]; exact WL.none _ _
  · rw [hw]; exact Nat.le_refl _
theorem RowLog.keep {W W' : World} {g cap : Nat} {l : List Rc} {row : Option Nat} (h : RowLog W g cap l) (k : W.grownBy W' row) (hr : some g ≠ row) : RowLog W' g cap l := by
  obtain ⟨cs, hrow, h1⟩ := h
  exact ⟨cs, hrow.kept k hr, h1⟩
theorem bv_get (l : List Rc) (i j : Nat) (hj : j < 6) : (bv l)[i * 6 + j]? = (l[i]?).bind fun r => (bv1 r)[j]? := by
  cases h : l[i]? with
  | some r => exact bv_at l i r h j hj
  | none =>
    rw [List.getElem?_eq_none (by rw [bv_len]; have := List.getElem?_eq_none_iff.1 h; omega)]; rfl
theorem six_of_nat (q : Nat) : ∃ i j, j < 6 ∧ q = i * 6 + j := ⟨q / 6, q % 6, Nat.mod_lt _ (by decide), by omega⟩
/-- One cell of one record anew. -/
theorem RowLog.set_ {W : World} {g cap : Nat} {l : List Rc} (h : RowLog W g cap l) {i : Nat} {r t : Rc} (hr : l[i]? = some r) {j : Nat} (hj : j < 6) {u : Value} (hu : bv1 t = (bv1 r).set j u) (ht : t.wraps = []) : RowLog (W.setCell ⟨g, i * 6 + j, none⟩ u) g cap (l.set i t) := by
  obtain ⟨cs, hrow, hs, hl, hc, hb⟩ := h
  have hi := (List.getElem?_eq_some_iff.1 hr).1
  refine ⟨_, hrow.set_ (i * 6 + j) u, by rw [Array.size_setIfInBounds, hs], by rw [List.length_set]; exact hl, fun q x hx => ?_, fun y hy => ?_⟩
  · obtain ⟨i2, j2, hj2, rfl⟩ := six_of_nat q
    rw [bv_get _ _ _ hj2] at hx
    rw [Array.getElem?_setIfInBounds]
    by_cases he : i * 6 + j = i2 * 6 + j2
    · obtain rfl : i = i2 := by omega
      obtain rfl : j = j2 := by omega
      rw [if_pos rfl, if_pos (by omega)]
      rw [List.getElem?_set_self hi] at hx
      have hx : (bv1 t)[j]? = some x := hx
      rw [hu, List.getElem?_set_self (by simp [bv1]; omega)] at hx
      exact hx
    · rw [if_neg he]
      refine hc _ _ ?_
      rw [bv_get _ _ _ hj2, ← hx]
      by_cases hi2 : i = i2
      · subst hi2
        rw [List.getElem?_set_self hi, hr]
        show (bv1 r)[j2]? = (bv1 t)[j2]?
        rw [hu, List.getElem?_set_ne (by omega)]
      · rw [List.getElem?_set_ne hi2]
  · rcases List.mem_or_eq_of_mem_set hy with h1 | rfl
    · exact hb y h1
    · exact ht
/-- One record gone: the cells behind it moved. -/
theorem bv_drop (l : List Rc) (k : Nat) : (bv l).drop (k * 6) = bv (l.drop k) := by
  refine List.ext_getElem? fun q => ?_
  obtain ⟨i, j, hj, rfl⟩ := six_of_nat q
  rw [List.getElem?_drop, show k * 6 + (i * 6 + j) = (k + i) * 6 + j by omega, bv_get _ _ _ hj, bv_get _ _ _ hj, List.getElem?_drop]
theorem RowLog.del {W : World} {g cap : Nat} {l : List Rc} (h : RowLog W g cap l) {k : Nat} (hk : k < l.length) : RowLog (W.setCells g (k * 6) (bv (l.drop (k + 1)))) g cap (l.take k ++ l.drop (k + 1)) := by
  obtain ⟨cs, hrow, hs, hl, hc, hb⟩ := h
  have hrow2 := row_setCells (bv (l.drop (k + 1))) (k * 6) cs W hrow
  refine ⟨_, hrow2, ?_, by rw [List.length_append, List.length_take, List.length_drop]; omega, fun q x hx => ?_, fun y hy => ?_⟩
  · rw [Mm.put_size]; exact hs
  · have hbl : (bv (l.drop (k + 1))).length = (l.length - (k + 1)) * 6 := by rw [bv_len, List.length_drop]
    by_cases hq : q < k * 6
    · rw [Mm.put_get, if_neg (by omega)]
      refine hc _ _ ?_
      rw [bv_append, List.getElem?_append_left (by rw [bv_len, List.length_take]; omega)] at hx
      obtain ⟨i, j, hj, rfl⟩ := six_of_nat q
      rw [bv_get _ _ _ hj] at hx ⊢
      rwa [List.getElem?_take, if_pos (by omega)] at hx
    · rw [bv_append, List.getElem?_append_right (by rw [bv_len, List.length_take]; omega), bv_len, List.length_take, Nat.min_eq_left (by omega)] at hx
      have hlt := (List.getElem?_eq_some_iff.1 hx).1
      obtain ⟨p, rfl⟩ : ∃ p, q = k * 6 + p := ⟨q - k * 6, by omega⟩
      rw [Nat.add_sub_cancel_left] at hx hlt
      rw [Mm.put_get, if_pos ⟨by omega, by omega, by omega⟩, Nat.add_sub_cancel_left, List.getD_eq_getElem?_getD, hx]; rfl
  · rcases List.mem_append.1 hy with h1 | h1
    · exact hb y (List.mem_of_mem_take h1)
    · exact hb y (List.mem_of_mem_drop h1)
/-- A slice of bytes that came in. -/
def U8L (w : World) (a : Option Addr) (n : Nat) (ns : List Nat) : Prop := ns.length = n ∧ (0 < n → ∃ g o, a = some ⟨g, o, none⟩ ∧ g < w.heap.size ∧ ∀ (i x : Nat), ns[i]? = some x → x ≤ 255 ∧ w.cell? ⟨g, o + i, none⟩ = some (.int .u8 (x : Int)))
theorem U8L.keep {w w' : World} {a : Option Addr} {n : Nat} {ns : List Nat} (h : U8L w a n ns) (k : w.grownBy w' none) : U8L w' a n ns := ⟨h.1, fun h0 => by
  obtain ⟨g, o, e, hg, hc⟩ := h.2 h0
  exact ⟨g, o, e, Nat.lt_of_lt_of_le hg k.size, fun i x hx => ⟨(hc i x hx).1, (World.cell?_of_block (a := ⟨g, o + i, none⟩) (k.block g hg (by simp))).trans (hc i x hx).2⟩⟩⟩
/-! ### Chain -/
noncomputable def prefC (ns : List Nat) (k : Nat) : List Rc := (ns.take k).foldl (fun l n => l ++ [nextC l n]) [firstR]
theorem pref_len {ns : List Nat} {k : Nat} (h : k ≤ ns.length) : (prefC ns k).length = k + 1 := by
  unfold prefC
  rw [chain_len, List.length_take]
  show 1 + _ = _
  omega
theorem pref_next {ns : List Nat} {k n : Nat} (hk : k < 29) (hn : ns[k]? = some n) : prefC ns (k + 1) = prefC ns k ++ [nextC (prefC ns k) n] := chainC_next hk hn
theorem pref_all {ns : List Nat} {k : Nat} (h : k = 29 ∨ k ≤ 29 ∧ ns.length ≤ k) : prefC ns k = chainC ns := by
  unfold prefC chainC
  rcases h with rfl | h
  · rfl
  · rw [List.take_of_length_le h.2, List.take_of_length_le (by omega)]
theorem foldl_bare : ∀ (ns : List Nat) (l : List Rc), Bare l → Bare (ns.foldl (fun l n => l ++ [nextC l n]) l)
  | [], _, h => h
  | n :: ns, l, h => by
    rw [List.foldl_cons]
    refine foldl_bare ns _ fun r hr => ?_
    rcases List.mem_append.1 hr with h1 | h1
    · exact h r h1
    · rw [List.mem_singleton.1 h1]; rfl
theorem pref_bare (ns : List Nat) (k : Nat) : Bare (prefC ns k) := foldl_bare _ _ (one_bare rfl)
theorem chainC_bare (ns : List Nat) : Bare (chainC ns) := foldl_bare _ _ (one_bare rfl)
theorem next_is {l : List Rc} {n N : Nat} {h9 tg : ByteArray} {kd d9 : Int} {q : Bool} (hN : l.length = N) (hh : lastH l = h9) (hd : 1 + ((n % 7 : Nat) : Int) = d9) (hq : inB l (N : Int) d9 = q) (hk : (if q then 2 else 1) = kd) (ht : (if 127 < n then tagC else ⟨#[]⟩) = tg) : nextC l n = ⟨(N : Int) + 1, h9, kd, d9, [], tg⟩ := by
  unfold nextC bare
  rw [hN, hh, hd, hq, ht, hk]
theorem last_is {l : List Rc} {j : Nat} {r : Rc} (hl : l.length = j + 1) (hr : l[j]? = some r) : lastH l = hashB r := by
  unfold lastH
  rw [List.getLast?_eq_getElem?, hl, Nat.add_sub_cancel, hr]
/-- A new box of a record, told. -/
def boxV (N : Nat) : Td.Spec := fun W v => ∃ b, v = .pointer (some ⟨b, 0, none⟩) ∧ Row W b 32 #[.int .i64 0, .string ⟨#[]⟩, .int .i64 0, .int .i64 0, .slice none 0 0, .string ⟨#[]⟩] ∧ N ≤ b
theorem boxV_stays {N : Nat} : Stays (fun a b => a.grownBy b none) (boxV N) := fun _ _ _ h ⟨b, e, hr, hN⟩ => ⟨b, e, hr.kept h (by simp), hN⟩
set_option maxHeartbeats 40000000 in
set_option maxRecDepth 100000 in
theorem chain_any (a : Option Addr) (n c : Nat) (ns : List Nat) (w : World) (hu : U8L w a n ns) :
    Calls Try.prog 12 #[.slice a n c] w fun e w' => ∃ v, e = .returned v ∧ w'.ownsRow w.heap.size 32 6 v (chainC ns).length (bv (chainC ns)) ∧ w.grownBy w' none := by
  obtain ⟨i0, hi0, hz0, hz1, hz2⟩ := rec_parts
  have Hi0 := Lib.hid hi0
  have Hz0 := Lib.hid hz0
  have Hz1 := Lib.hid hz1
  have Hz2 := Lib.hid hz2
  have HU := Lib.hid hu
  clear hi0 hz0 hz1 hz2 hu
  go_enter Try.func12, Try.ntmps12
  go_wp2_with fail
  go_loopw [3, 4] (fun lv iv wr => ∃ (k : Nat) (u : Value), u = lv ∧ k ≤ n ∧ k ≤ 29 ∧ iv = .int .i64 k ∧ Hid (wr.ownsRow w.heap.size 32 6 lv (k + 1) (bv (prefC ns k))) ∧ w.grownBy wr none) (fun _ iv _ => n - (intOf iv).toNat)
  case atStart => exact ⟨0, _, rfl, Nat.zero_le _, by decide, rfl, own_new w [firstR] 1 #[.int .i64 1, .string ⟨#[]⟩, .int .i64 1, .int .i64 0, .slice none 0 0, .string ⟨#[]⟩] rfl rfl (by decide), gb_alloc (gb_refl _ _) _⟩
  case round =>
    obtain ⟨k, u, rfl, hk, hk2, rfl, Ho, hg⟩ := hrel
    obtain ⟨N, hN⟩ : ∃ N, k + 1 = N := ⟨_, rfl⟩
    rw [hN] at Ho
    obtain ⟨l, hl⟩ : ∃ l, prefC ns k = l := ⟨_, rfl⟩
    have hln : l.length = N := by rw [← hl, pref_len (by rw [HU.out.1]; exact hk)]; exact hN
    have hbr : Bare l := by rw [← hl]; exact pref_bare _ _
    rw [hl] at Ho
    obtain ⟨g, c9, rfl, hBg, hRL⟩ := own_rowlog Ho.out hln (by omega) hbr
    by_cases hlt : k < n
    · have d1 : decide (k < n) = true := decide_eq_true hlt
      have d2 : decide ((k : Int) < (n : Int)) = true := decide_eq_true (by omega)
      by_cases h29 : k < 29
      · have d3 : decide (N < 30) = true := decide_eq_true (by omega)
        have d4 : decide ((N : Int) < 30) = true := decide_eq_true (by omega)
        have hUg := HU.out.keep hg
        obtain ⟨ga, oa, rfl, hga, hcc⟩ := hUg.2 (by omega)
        obtain ⟨x, hx⟩ : ∃ x, ns[k]? = some x := ⟨_, List.getElem?_eq_getElem (by rw [HU.out.1]; exact hlt)⟩
        obtain ⟨r, hr⟩ : ∃ r, l[k]? = some r := ⟨_, List.getElem?_eq_getElem (by omega)⟩
        obtain ⟨RA, rc, x0, x1, x2, x3, x4, x5, hwl, _⟩ := (Mb.log_rec hRL.log hr).2
        have hw0 : r.wraps.length ≤ 1099511627776 := bare_len hbr r (List.mem_of_getElem? hr)
        have hglt : g < wr.heap.size := (hRL.log.2 (by omega)).elim fun g' h => by obtain ⟨o', e, h1, _⟩ := h; cases e; exact h1
        have HX : Hid (∀ W, wr.grownBy W none → W.cell? ⟨g, k * 6, none⟩ = some (.int .i64 r.seq) ∧ W.cell? ⟨g, k * 6 + 1, none⟩ = some (.string r.prev) ∧ W.cell? ⟨g, k * 6 + 2, none⟩ = some (.int .i64 r.kind) ∧ W.cell? ⟨g, k * 6 + 3, none⟩ = some (.int .i64 r.dev) ∧ W.cell? ⟨g, k * 6 + 4, none⟩ = some (.slice RA r.wraps.length rc) ∧ W.cell? ⟨g, k * 6 + 5, none⟩ = some (.string r.tag)) := fun W hW => by
          have hb := hW.block g hglt (by simp)
          rw [Nat.zero_add] at x0 x1 x2 x3 x4 x5
          exact ⟨(World.cell?_of_block (a := ⟨g, k * 6, none⟩) hb).trans x0, (World.cell?_of_block (a := ⟨g, k * 6 + 1, none⟩) hb).trans x1, (World.cell?_of_block (a := ⟨g, k * 6 + 2, none⟩) hb).trans x2, (World.cell?_of_block (a := ⟨g, k * 6 + 3, none⟩) hb).trans x3, (World.cell?_of_block (a := ⟨g, k * 6 + 4, none⟩) hb).trans x4, (World.cell?_of_block (a := ⟨g, k * 6 + 5, none⟩) hb).trans x5⟩
        obtain ⟨h9, hh9⟩ : ∃ h9, hashB r = h9 := ⟨_, rfl⟩
        have HHs : Hid (∀ W, wr.grownBy W none → Calls Try.prog 15 #[.agg #[.int .i64 r.seq, .string r.prev, .int .i64 r.kind, .int .i64 r.dev, .slice RA r.wraps.length rc, .string r.tag]] W fun e w' => e = .returned (.string h9) ∧ W.grownBy w' none) := fun W hW => by rw [← hh9]; exact refHash_any r RA rc W (hwl.keep hW) hw0
        have HLh : Hid (lastH l = h9) := by show _ = _; rw [last_is (by rw [hln, hN]) hr, hh9]
        have HUb : Hid (∀ W, wr.grownBy W none → W.cell? ⟨ga, oa + k, none⟩ = some (.int .u8 (x : Int))) := fun W hW => (World.cell?_of_block (a := ⟨ga, oa + k, none⟩) (hW.block ga hga (by simp))).trans (hcc k x hx).2
        have HU8 := HUb
        have hx255 := (hcc k x hx).1
        obtain ⟨m, hm⟩ : ∃ m : Nat, x % 7 = m := ⟨_, rfl⟩
        obtain ⟨d9, hd9⟩ : ∃ d9 : Int, 1 + (m : Int) = d9 := ⟨_, rfl⟩
        have Hdd : Hid (1 + ((x % 7 : Nat) : Int) = d9) := by show _ = _; rw [hm, hd9]
        have Hx : Hid (IntKind.i64.wrap (x : Int) = (x : Int) ∧ (x : Int).tmod 7 = (m : Int) ∧ IntKind.i64.wrap (m : Int) = (m : Int) ∧ 1 + (m : Int) = d9 ∧ IntKind.i64.wrap d9 = d9) := ⟨by rw [IntKind.wrap_i64]; omega, by rw [Int.tmod_eq_emod_of_nonneg (by omega)]; omega, by rw [IntKind.wrap_i64]; omega, hd9, by rw [IntKind.wrap_i64]; omega⟩
        have Ht1 : Hid (IntKind.i64.wrap ((N : Int) + 1) = (N : Int) + 1) := by show _ = _; rw [IntKind.wrap_i64]; omega
        have Ht2 : Hid (IntKind.i64.wrap ((N : Int) - 1) = (k : Int)) := by show _ = _; rw [IntKind.wrap_i64]; omega
        have Ht3 : Hid (IntKind.i64.wrap ((k : Int) + 1) = (k : Int) + 1) := by show _ = _; rw [IntKind.wrap_i64]; omega
        have Hbk : Hid ((k : Int) < (N : Int)) := by show _ < _; omega
        have Hbi : Hid ((k : Int) < (n : Int)) := by show _ < _; omega
        have Hlt := Lib.hid hlt
        have H29 := Lib.hid h29
        have HN30 : Hid (N ≤ 30) := by show _ ≤ _; omega
        have HNk : Hid (k + 1 = N) := hN
        have Hxk := Lib.hid hx
        have HLl := Lib.hid hl
        have HLn := Lib.hid hln
        have Hbr := Lib.hid hbr
        have Hg := Lib.hid hg
        clear hk hk2 hN hl hln hbr hBg hRL hlt h29 hUg hga hcc hx hr x0 x1 x2 x3 x4 x5 hwl hw0 hglt hh9 hx255 hm hd9 hg
        go_upto_region 5 with fail
        clear d1 d2 d3 d4
        apply wp_region_told_tail (le := fun a b => a.grownBy b none) 19 _ [isV _, isV _, isV _, isV _, isV _, isV _, isV _, isV _, isV _, isV _, isV _, isV _, isV _, isV _, isV _, isV _, isV _, isV _, boxV wr.heap.size]
        case hL => rfl
        case hz => rfl
        case hLd => rfl
        case hLg => rfl
        case hLw => kernel_rfl
        case hlen => rfl
        case hn => rfl
        case hm => kernel_rfl
        case hB => kernel_rfl
        case ht => exact fun _ _ _ h k => gb_none h k
        case hw => exact gb_drew (gb_refl _ _)
        -- 0: law.go:52 move
        apply told_is
        · intro W f hW hE h0 K hK
          have e3 := h0 3 (by kernel_rfl)
          conv at e3 => rhs; whnf
          clear hE h0
          refine yes_of (want_free rfl) ?_
          go_simp; exact hK _ _ (gb_refl _ _) rfl
        -- 1: law.go:52 call
        apply told_is
        · intro W f hW hE h0 K hK
          have e19 : f 19 = _ := hE 0 19 _ rfl (by kernel_rfl)
          clear hE h0
          refine yes_of (want_free rfl) ?_
          go_simp; exact hK _ _ (gb_refl _ _) rfl
        -- 2: law.go:52 binOp
        apply told_is
        · intro W f hW hE h0 K hK
          have e20 : f 20 = _ := hE 0 20 _ rfl (by kernel_rfl)
          clear hE h0
          refine yes_of (want_free rfl) ?_
          have q1 := Ht1.out
          go_simp; exact hK _ _ (gb_refl _ _) rfl
        -- 3: law.go:52 move
        apply told_is
        · intro W f hW hE h0 K hK
          have e3 := h0 3 (by kernel_rfl)
          conv at e3 => rhs; whnf
          clear hE h0
          refine yes_of (want_free rfl) ?_
          go_simp; exact hK _ _ (gb_refl _ _) rfl
        -- 4: law.go:52 move
        apply told_is
        · intro W f hW hE h0 K hK
          have e3 := h0 3 (by kernel_rfl)
          conv at e3 => rhs; whnf
          clear hE h0
          refine yes_of (want_free rfl) ?_
          go_simp; exact hK _ _ (gb_refl _ _) rfl
        -- 5: law.go:52 call
        apply told_is
        · intro W f hW hE h0 K hK
          have e23 : f 23 = _ := hE 0 23 _ rfl (by kernel_rfl)
          clear hE h0
          refine yes_of (want_free rfl) ?_
          go_simp; exact hK _ _ (gb_refl _ _) rfl
        -- 6: law.go:52 binOp
        apply told_is
        · intro W f hW hE h0 K hK
          have e24 : f 24 = _ := hE 0 24 _ rfl (by kernel_rfl)
          clear hE h0
          refine yes_of (want_free rfl) ?_
          have q1 := Ht2.out
          go_simp; exact hK _ _ (gb_refl _ _) rfl
        -- 7: law.go:52 indexAddr
        apply told_is
        · intro W f hW hE h0 K hK
          have e22 : f 22 = _ := hE 3 22 _ rfl (by kernel_rfl)
          have e25 : f 25 = _ := hE 0 25 _ rfl (by kernel_rfl)
          clear hE h0
          refine yes_of (want_free rfl) ?_
          have q1 := Hbk.out
          go_simp; exact hK _ _ (gb_refl _ _) rfl
        -- 8: law.go:52 load
        apply told_is
        · intro W f hW hE h0 K hK
          have e26 : f 26 = _ := hE 0 26 _ rfl (by kernel_rfl)
          clear hE h0
          refine yes_of (want_free rfl) ?_
          obtain ⟨y0, y1, y2, y3, y4, y5⟩ := HX.out W hW
          go_simp; exact hK _ _ (gb_refl _ _) rfl
        -- 9: law.go:52 call
        apply told_is
        · intro W f hW hE h0 K hK
          have e27 : f 27 = _ := hE 0 27 _ rfl (by kernel_rfl)
          clear hE h0
          refine yes_of (want_free rfl) ?_
          go_simp
          refine (HHs.out W hW).mono ?_
          rintro e w1' ⟨rfl, g'⟩
          exact ⟨_, rfl, hK _ _ g' rfl⟩
        -- 10: law.go:52 move
        apply told_is
        · intro W f hW hE h0 K hK
          have e0 := h0 0 (by kernel_rfl)
          conv at e0 => rhs; whnf
          clear hE h0
          refine yes_of (want_free rfl) ?_
          go_simp; exact hK _ _ (gb_refl _ _) rfl
        -- 11: law.go:52 move
        apply told_is
        · intro W f hW hE h0 K hK
          have e4 := h0 4 (by kernel_rfl)
          conv at e4 => rhs; whnf
          clear hE h0
          refine yes_of (want_free rfl) ?_
          go_simp; exact hK _ _ (gb_refl _ _) rfl
        -- 12: law.go:52 indexAddr
        apply told_is
        · intro W f hW hE h0 K hK
          have e29 : f 29 = _ := hE 1 29 _ rfl (by kernel_rfl)
          have e30 : f 30 = _ := hE 0 30 _ rfl (by kernel_rfl)
          clear hE h0
          refine yes_of (want_free rfl) ?_
          have q1 := Hbi.out
          go_simp; exact hK _ _ (gb_refl _ _) rfl
        -- 13: law.go:52 load
        apply told_is
        · intro W f hW hE h0 K hK
          have e31 : f 31 = _ := hE 0 31 _ rfl (by kernel_rfl)
          clear hE h0
          refine yes_of (want_free rfl) ?_
          have q1 := HU8.out W hW
          go_simp; exact hK _ _ (gb_refl _ _) rfl
        -- 14: law.go:52 convert
        apply told_is
        · intro W f hW hE h0 K hK
          have e32 : f 32 = _ := hE 0 32 _ rfl (by kernel_rfl)
          clear hE h0
          refine yes_of (want_free rfl) ?_
          have q1 := Hx.out.1
          go_simp; exact hK _ _ (gb_refl _ _) rfl
        -- 15: law.go:52 binOp
        apply told_is
        · intro W f hW hE h0 K hK
          have e33 : f 33 = _ := hE 0 33 _ rfl (by kernel_rfl)
          clear hE h0
          refine yes_of (want_free rfl) ?_
          obtain ⟨_, q1, q2, _⟩ := Hx.out
          go_simp; exact hK _ _ (gb_refl _ _) rfl
        -- 16: law.go:52 binOp
        apply told_is
        · intro W f hW hE h0 K hK
          have e34 : f 34 = _ := hE 0 34 _ rfl (by kernel_rfl)
          clear hE h0
          refine yes_of (want_free rfl) ?_
          obtain ⟨_, _, _, q1, q2⟩ := Hx.out
          go_simp; exact hK _ _ (gb_refl _ _) rfl
        -- 17: law.go:52 build
        apply told_is
        · intro W f hW hE h0 K hK
          have e21 : f 21 = _ := hE 14 21 _ rfl (by kernel_rfl)
          have e28 : f 28 = _ := hE 7 28 _ rfl (by kernel_rfl)
          have e35 : f 35 = _ := hE 0 35 _ rfl (by kernel_rfl)
          clear hE h0
          refine yes_of (want_free rfl) ?_
          go_simp; exact hK _ _ (gb_refl _ _) rfl
        -- 18: law.go:52 alloc
        apply told_at boxV_stays
        · intro W f hW hE h0 K hK
          clear hE h0
          refine yes_of (want_free rfl) ?_
          go_simp
          exact hK _ _ (gb_alloc (gb_refl _ _) _) ⟨_, rfl, Row.new _ _ _, hW.size⟩
        intro W f hW hA
        simp only [lexIn, Act.put, List.setIfInBounds_toArray, List.set_cons_zero, List.set_cons_succ]
        have e5 := hA 0 (some 5) _ rfl
        have e36 : f 36 = _ := hA 1 (some 36) _ rfl
        rw [e36]
        clear hA
        obtain ⟨b5, e5, hr5, hb5⟩ := e5
        rw [e5]
        have HU : Hid (∀ i, ((.slice (some ⟨g, 0, none⟩) N c9) : Value).ownBlock = some i → i ≠ b5) := fun i e => by have := (Ho.out.lt i e).2; omega
        have Hb5 : Hid (w.heap.size ≤ b5) := Nat.le_trans Hg.out.size hb5
        have Hwb5 : Hid (wr.heap.size ≤ b5) := hb5
        have q0 := hr5.free 0; have q1 := hr5.free 1; have q2 := hr5.free 2; have q3 := hr5.free 3; have q4 := hr5.free 4; have q5 := hr5.free 5
        have u0 : W.cell? ⟨b5, 0, none⟩ = some (.int .i64 0) := hr5.at_ (i := 0) rfl; have u1 : W.cell? ⟨b5, 1, none⟩ = some (.string ⟨#[]⟩) := hr5.at_ (i := 1) rfl; have u2 : W.cell? ⟨b5, 2, none⟩ = some (.int .i64 0) := hr5.at_ (i := 2) rfl; have u3 : W.cell? ⟨b5, 3, none⟩ = some (.int .i64 0) := hr5.at_ (i := 3) rfl; have u4 : W.cell? ⟨b5, 4, none⟩ = some (.slice none 0 0) := hr5.at_ (i := 4) rfl; have u5 : W.cell? ⟨b5, 5, none⟩ = some (.string ⟨#[]⟩) := hr5.at_ (i := 5) rfl
        have HR6 : Hid (Row ((((((W.setCell ⟨b5, 0, none⟩ (.int .i64 ((N : Int) + 1))).setCell ⟨b5, 1, none⟩ (.string h9)).setCell ⟨b5, 2, none⟩ (.int .i64 1)).setCell ⟨b5, 3, none⟩ (.int .i64 d9)).setCell ⟨b5, 4, none⟩ (.slice none 0 0)).setCell ⟨b5, 5, none⟩ (.string ⟨#[]⟩)) b5 32 #[.int .i64 ((N : Int) + 1), .string h9, .int .i64 1, .int .i64 d9, .slice none 0 0, .string ⟨#[]⟩]) := ((((((hr5.set_ 0 (.int .i64 ((N : Int) + 1))).set_ 1 (.string h9)).set_ 2 (.int .i64 1)).set_ 3 (.int .i64 d9)).set_ 4 (.slice none 0 0)).set_ 5 (.string ⟨#[]⟩))
        have g6 : W.grownBy ((((((W.setCell ⟨b5, 0, none⟩ (.int .i64 ((N : Int) + 1))).setCell ⟨b5, 1, none⟩ (.string h9)).setCell ⟨b5, 2, none⟩ (.int .i64 1)).setCell ⟨b5, 3, none⟩ (.int .i64 d9)).setCell ⟨b5, 4, none⟩ (.slice none 0 0)).setCell ⟨b5, 5, none⟩ (.string ⟨#[]⟩)) (some b5) := gb_then (gb_then (gb_then (gb_then (gb_then (gb_set1 _ _ _ _) (gb_set1 _ _ _ _)) (gb_set1 _ _ _ _)) (gb_set1 _ _ _ _)) (gb_set1 _ _ _ _)) (gb_set1 _ _ _ _)
        have Hg6 := Lib.hid (gb_new (gb_none Hg.out hW) g6 Hb5.out)
        have HgW6 := Lib.hid (gb_new hW g6 hb5)
        have Ho6 : Hid (((((((W.setCell ⟨b5, 0, none⟩ (.int .i64 ((N : Int) + 1))).setCell ⟨b5, 1, none⟩ (.string h9)).setCell ⟨b5, 2, none⟩ (.int .i64 1)).setCell ⟨b5, 3, none⟩ (.int .i64 d9)).setCell ⟨b5, 4, none⟩ (.slice none 0 0)).setCell ⟨b5, 5, none⟩ (.string ⟨#[]⟩)).ownsRow w.heap.size 32 6 (.slice (some ⟨g, 0, none⟩) N c9) N (bv l)) := World.ownsRow.kept (Mb.own_keep Ho.out hW) g6 (.inr (fun e => HU.out b5 e rfl))
        obtain ⟨W6, hW6⟩ : ∃ W6, ((((((W.setCell ⟨b5, 0, none⟩ (.int .i64 ((N : Int) + 1))).setCell ⟨b5, 1, none⟩ (.string h9)).setCell ⟨b5, 2, none⟩ (.int .i64 1)).setCell ⟨b5, 3, none⟩ (.int .i64 d9)).setCell ⟨b5, 4, none⟩ (.slice none 0 0)).setCell ⟨b5, 5, none⟩ (.string ⟨#[]⟩)) = W6 := ⟨_, rfl⟩
        have HW6 := Lib.hid hW6
        rw [hW6] at HR6 Hg6 HgW6 Ho6
        clear hW g6 hr5 hb5 hW6
        rw [ends_is]
        go_simp
        rw [HW6.out]
        clear HW6 q0 u0 q1 u1 q2 u2 q3 u3 q4 u4 q5 u5
        have HCb : Hid (W6.cell? ⟨b5, 0, none⟩ = some (.int .i64 ((N : Int) + 1)) ∧ W6.cell? ⟨b5, 1, none⟩ = some (.string h9) ∧ W6.cell? ⟨b5, 2, none⟩ = some (.int .i64 1) ∧ W6.cell? ⟨b5, 3, none⟩ = some (.int .i64 d9) ∧ W6.cell? ⟨b5, 4, none⟩ = some (.slice none 0 0) ∧ W6.cell? ⟨b5, 5, none⟩ = some (.string ⟨#[]⟩)) := ⟨(HR6.out).at_ (i := 0) rfl, (HR6.out).at_ (i := 1) rfl, (HR6.out).at_ (i := 2) rfl, (HR6.out).at_ (i := 3) rfl, (HR6.out).at_ (i := 4) rfl, (HR6.out).at_ (i := 5) rfl⟩
        obtain ⟨x0, x1, x2, x3, x4, x5⟩ := HCb.out
        obtain ⟨q, hq⟩ : ∃ q, inB l (N : Int) d9 = q := ⟨_, rfl⟩
        have HQ := Lib.hid hq
        have HIn : Hid (Calls Try.prog 10 #[(.slice (some ⟨g, 0, none⟩) N c9), .int .i64 (N : Int), .int .i64 d9] W6 fun x w' => x = .returned (.bool q) ∧ W6 = w') := by
          rw [← hq]
          obtain ⟨g', c', e', _, hRL6⟩ := own_rowlog Ho6.out HLn.out (by have := HNk.out; omega) Hbr.out
          cases e'
          have hLL := hRL6.log
          rw [HLn.out] at hLL
          exact refIn_any (some ⟨g, 0, none⟩) N c9 l (N : Int) d9 W6 hLL (by have := HN30.out; omega)
        clear hq
        go_wp2_with fail
        refine HIn.out.mono ?_
        rintro e _ ⟨rfl, rfl⟩
        go_upto_if 42 with fail
        go_cut [43] (fun _ wx => ∃ kd : Int, Hid ((if q then 2 else 1) = kd) ∧ Hid (Row wx b5 32 #[.int .i64 ((N : Int) + 1), .string h9, .int .i64 kd, .int .i64 d9, .slice none 0 0, .string ⟨#[]⟩]) ∧ Hid (w.grownBy wx none) ∧ Hid (wr.grownBy wx none) ∧ Hid (wx.ownsRow w.heap.size 32 6 (.slice (some ⟨g, 0, none⟩) N c9) N (bv l)))
        case first =>
          clear x0 x1 x2 x3 x4 x5
          cases q with
          | true =>
            have x2 : W6.cell? ⟨b5, 2, none⟩ = some (.int .i64 1) := HR6.out.at_ (i := 2) rfl
            have f2 : W6.frozen? ⟨b5, 2, none⟩ = false := HR6.out.free 2
            go_wp2_with fail
            go_meet
            exact ⟨2, rfl, HR6.out.set_ 2 (.int .i64 2), gb_new Hg6.out (gb_set1 _ _ _ _) Hb5.out, gb_new HgW6.out (gb_set1 _ _ _ _) Hwb5.out, own_past Ho6.out HU.out⟩
          | false =>
            go_wp2_with fail
            go_meet
            exact ⟨1, rfl, HR6, Hg6, HgW6, Ho6⟩
        case rest =>
          obtain ⟨kd, Hkd, HR7, Hg7, HgW7, Ho7⟩ := hcut
          clear x0 x1 x2 x3 x4 x5 HR6 Hg6 HgW6 Ho6 HIn HCb
          generalize wc = W7 at *
          have q1 : W7.cell? ⟨ga, oa + k, none⟩ = some (.int .u8 (x : Int)) := HUb.out W7 HgW7.out
          have q2 := Hbi.out
          go_upto_if 48 with fail
          clear q1 q2
          go_cut [49] (fun _ wx => ∃ tg : ByteArray, Hid ((if 127 < x then tagC else ⟨#[]⟩) = tg) ∧ Hid (Row wx b5 32 #[.int .i64 ((N : Int) + 1), .string h9, .int .i64 kd, .int .i64 d9, .slice none 0 0, .string tg]) ∧ Hid (w.grownBy wx none) ∧ Hid (wx.ownsRow w.heap.size 32 6 (.slice (some ⟨g, 0, none⟩) N c9) N (bv l)))
          case first =>
            by_cases htg : 127 < x
            · have e7 : decide (127 < x) = true := decide_eq_true htg
              have e8 : decide ((127 : Int) < (x : Int)) = true := decide_eq_true (by omega)
              have Htg : Hid ((if 127 < x then tagC else ⟨#[]⟩) = ⟨#[48, 49, 50, 51, 52, 53, 54, 55, 56, 57, 97, 98, 99, 100, 101, 102]⟩) := by show _ = _; rw [if_pos htg]; rfl
              have x5 : W7.cell? ⟨b5, 5, none⟩ = some (.string ⟨#[]⟩) := HR7.out.at_ (i := 5) rfl
              have f5 : W7.frozen? ⟨b5, 5, none⟩ = false := HR7.out.free 5
              rw [e8]
              clear htg
              go_wp2_with fail
              go_meet
              exact ⟨_, Htg, HR7.out.set_ 5 (.string ⟨#[48, 49, 50, 51, 52, 53, 54, 55, 56, 57, 97, 98, 99, 100, 101, 102]⟩), gb_new Hg7.out (gb_set1 _ _ _ _) Hb5.out, own_past Ho7.out HU.out⟩
            · have e7 : decide (127 < x) = false := decide_eq_false htg
              have e8 : decide ((127 : Int) < (x : Int)) = false := decide_eq_false (by omega)
              have Htg : Hid ((if 127 < x then tagC else ⟨#[]⟩) = ⟨#[]⟩) := by show _ = _; rw [if_neg htg]
              rw [e8]
              clear htg
              go_wp2_with fail
              go_meet
              exact ⟨_, Htg, HR7, Hg7, Ho7⟩
          case rest =>
            obtain ⟨tg, Htg, HR9, Hg9, Ho9⟩ := hcut
            clear HR7 Hg7 HgW7 Ho7
            generalize wc = W9 at *
            have HB9 : Hid (W9.cell? ⟨b5, 0, none⟩ = some (.int .i64 ((N : Int) + 1)) ∧ W9.cell? ⟨b5, 1, none⟩ = some (.string h9) ∧ W9.cell? ⟨b5, 2, none⟩ = some (.int .i64 kd) ∧ W9.cell? ⟨b5, 3, none⟩ = some (.int .i64 d9) ∧ W9.cell? ⟨b5, 4, none⟩ = some (.slice none 0 0) ∧ W9.cell? ⟨b5, 5, none⟩ = some (.string tg)) := ⟨(HR9.out).at_ (i := 0) rfl, (HR9.out).at_ (i := 1) rfl, (HR9.out).at_ (i := 2) rfl, (HR9.out).at_ (i := 3) rfl, (HR9.out).at_ (i := 4) rfl, (HR9.out).at_ (i := 5) rfl⟩
            obtain ⟨x0, x1, x2, x3, x4, x5⟩ := HB9.out
            have Ho10 : Hid ((W9.alloc (.cells #[.int .i64 ((N : Int) + 1), .string h9, .int .i64 kd, .int .i64 d9, .slice none 0 0, .string tg] 32)).ownsRow w.heap.size 32 6 (.slice (some ⟨g, 0, none⟩) N c9) N (bv l)) := Mb.own_keep Ho9.out (gb_alloc (gb_refl _ _) _)
            have hgs : w.heap.size ≤ (W9.alloc (.cells #[.int .i64 ((N : Int) + 1), .string h9, .int .i64 kd, .int .i64 d9, .slice none 0 0, .string tg] 32)).heap.size := (gb_alloc Hg9.out _).size
            have HNews := Lib.hid (World.news_of_block (cs := #[.int .i64 ((N : Int) + 1), .string h9, .int .i64 kd, .int .i64 d9, .slice none 0 0, .string tg]) (t := 32) (fr := (0, 0)) (heap_alloc_new W9 _))
            have HBv := Lib.hid (bv1_one ⟨(N : Int) + 1, h9, kd, d9, [], tg⟩)
            have HM1 : Hid (N + 1 ≤ maxLen) := by have := HN30.out; show _ ≤ _; simp only [maxLen]; omega
            have t3 := Ht3.out
            go_wp2_with (at_builtin; go_must (refine wpList_append_own_at _ rfl (.tmp 50) (.tmp 52) 22 rfl w.heap.size 32 i0 (.agg #[.int .i64 0, .string ⟨#[]⟩, .int .i64 0, .int .i64 0, .slice none 0 0, .string ⟨#[]⟩]) 6 80 Try.underlying22 Hi0.out Hz0.out Hz1.out Hz2.out rfl (by decide) _ N _ rfl Ho10.out ⟨W9.heap.size, 0, none⟩ 1 1 [.int .i64 ((N : Int) + 1), .string h9, .int .i64 kd, .int .i64 d9, .slice none 0 0, .string tg] rfl rfl HNews.out HBv.out (by have := HN30.out; simp only [maxLen]; omega) (by have := HN30.out; omega) hgs ?_); intro v8 w8 own8 hgrow _ _; have Hown8 := Lib.hid own8; have Hg8 := Lib.hid (gb_step (gb_alloc Hg9.out _) hgrow (fun i e => .inr (Ho10.out.lt i e).1)); clear own8 hgrow)
            go_roundw
            case rel =>
              refine ⟨k + 1, _, rfl, by have := Hlt.out; omega, by have := H29.out; omega, rfl, ?_, Hg8.out⟩
              rw [← HNk.out] at Hown8
              have hnx : prefC ns (k + 1) = l ++ [⟨(N : Int) + 1, h9, kd, d9, [], tg⟩] := by rw [pref_next H29.out Hxk.out, HLl.out, next_is HLn.out HLh.out Hdd.out HQ.out Hkd.out Htg.out]
              rw [hnx, bv_append, HNk.out]
              rw [HNk.out] at Hown8
              exact Hown8.out
            case measure => simp [intOf]; have := Hlt.out; omega
      · have d3 : decide (N < 30) = false := decide_eq_false (by omega)
        have d4 : decide ((N : Int) < 30) = false := decide_eq_false (by omega)
        have HE := Lib.hid (show w.grownBy wr none ∧ wr.ownsRow w.heap.size 32 6 (.slice (some ⟨g, 0, none⟩) N c9) (chainC ns).length (bv (chainC ns)) from ⟨hg, by rw [← pref_all (ns := ns) (k := k) (by omega), hl, hln]; exact Ho.out⟩)
        clear hk hk2 hN hl hln hbr hBg hRL hlt h29 hg
        go_wp2_with fail
        go_ret
        exact ⟨_, rfl, HE.out.2, HE.out.1⟩
    · have d1 : decide (k < n) = false := decide_eq_false hlt
      have d2 : decide ((k : Int) < (n : Int)) = false := decide_eq_false (by omega)
      have HE := Lib.hid (show w.grownBy wr none ∧ wr.ownsRow w.heap.size 32 6 (.slice (some ⟨g, 0, none⟩) N c9) (chainC ns).length (bv (chainC ns)) from ⟨hg, by rw [← pref_all (ns := ns) (k := k) (.inr ⟨hk2, by rw [HU.out.1]; omega⟩), hl, hln]; exact Ho.out⟩)
      clear hk hk2 hN hl hln hbr hBg hRL hlt hg
      go_wp2_with fail
      go_ret
      exact ⟨_, rfl, HE.out.2, HE.out.1⟩
end Go.Proofs.Ytaecfcodldbnhaa.Mb
