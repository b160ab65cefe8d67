/- The document's PutState: a state as bytes. -/
import Derived.Test.YthijiefopcnclaaGreatDoorPsW
import Derived.Test.YthijiefopcnclaaGreatDoorFtMay
import Derived.Test.YthijiefopcnclaaGreatDoorToldM
import Derived.Deep.AppendLies
namespace Go.Proofs.YthijiefopcnclaaGreatDoor.Dt
open Go Go.RowKit Go.Proofs.YthijiefopcnclaaGreatDoor.Mm Go.Proofs.YthijiefopcnclaaGreatDoor.Vw Go.Proofs.YthijiefopcnclaaGreatDoor.Td

def runW (r : Rn) : Wr := lW [nW r.d, nW r.f, nW r.t]
def factL (f : Fc) : List Wr := [nW f.d, nW f.n, tW f.key, nW f.kind, tW f.item, nW f.v]
def factW (f : Fc) : Wr := lW (factL f)
/-- A state as a wire. -/
def stW (s : St) : Wr := lW [lW (s.seen.map runW), lW (s.facts.map factW)]
def intsV (x : Rn) : Td.Spec := fun W v => ∃ g, v = .slice (some ⟨g, 0, none⟩) 3 3 ∧ Row W g 3 #[.int .i64 x.d, .int .i64 x.f, .int .i64 x.t]
theorem intsV_stays {x : Rn} : Stays (fun a b => a.grownBy b none) (intsV x) := fun _ _ _ h ⟨g, e, hr⟩ => ⟨g, e, hr.kept h (by simp)⟩
def wireV (N : Nat) (l : List Wr) : Td.Spec := fun W v => ∃ A n c, v = .agg #[.int .i64 3, .int .i64 0, .string ⟨#[]⟩, .slice A n c] ∧ HL W N (.slice A n c) l
theorem wireV_stays {N : Nat} {l : List Wr} : Stays (fun a b => a.grownBy b none) (wireV N l) := fun _ _ _ h ⟨A, n, c, e, hr⟩ => ⟨A, n, c, e, hr.kept h⟩
def rowV (N : Nat) (l : List Wr) : Td.Spec := fun W v => ∃ g A n c, v = .slice (some ⟨g, 0, none⟩) 1 1 ∧ Row W g 60 #[.int .i64 3, .int .i64 0, .string ⟨#[]⟩, .slice A n c] ∧ HL W N (.slice A n c) l
theorem rowV_stays {N : Nat} {l : List Wr} : Stays (fun a b => a.grownBy b none) (rowV N l) := fun _ _ _ h ⟨g, A, n, c, e, hr, hl⟩ => ⟨g, A, n, c, e, hr.kept h (by simp), hl.kept h⟩
def sixV (N : Nat) (l : List Wr) : Td.Spec := fun W v => ∃ g, v = .slice (some ⟨g, 0, none⟩) 6 6 ∧ HL W N (.slice (some ⟨g, 0, none⟩) 6 6) l
theorem sixV_stays {N : Nat} {l : List Wr} : Stays (fun a b => a.grownBy b none) (sixV N l) := fun _ _ _ h ⟨g, e, hl⟩ => ⟨g, e, hl.kept h⟩
theorem hl_new (w : World) (ps : List (Wr × Value)) (n : Nat) (cs : Array Value) (hn : ps.length = n) (hc : cs.toList = flat ps) (h0 : n ≤ 1000) (hp : ∀ q ∈ ps, HL (w.alloc (.cells cs 60)) w.heap.size q.2 q.1.l) : HL (w.alloc (.cells cs 60)) w.heap.size (.slice (some ⟨w.heap.size, 0, none⟩) n n) (ps.map Prod.fst) := by
  have hl : cs.size = n * 4 := by rw [← Array.length_toList, hc, flat_len, hn]
  refine own_HL (B := w.heap.size) ⟨by rw [flat_len], .inr ⟨w.heap.size, n, cs, by rw [hn], Nat.le_refl _, heap_alloc_new w _, by omega, by simp only [maxLen]; omega, hl, ?_⟩⟩ (by omega) hp
  rw [hc, List.take_of_length_le (by rw [flat_len]; exact Nat.le_refl _)]
theorem hl_six (x : Fc) (w : World) : HL (w.alloc (.cells #[.int .i64 1, .int .i64 x.d, .string ⟨#[]⟩, .slice none 0 0, .int .i64 1, .int .i64 x.n, .string ⟨#[]⟩, .slice none 0 0, .int .i64 2, .int .i64 0, .string x.key, .slice none 0 0, .int .i64 1, .int .i64 x.kind, .string ⟨#[]⟩, .slice none 0 0, .int .i64 2, .int .i64 0, .string x.item, .slice none 0 0, .int .i64 1, .int .i64 x.v, .string ⟨#[]⟩, .slice none 0 0] 60)) w.heap.size (.slice (some ⟨w.heap.size, 0, none⟩) 6 6) (factL x) :=
  hl_new w [(nW x.d, .slice none 0 0), (nW x.n, .slice none 0 0), (tW x.key, .slice none 0 0), (nW x.kind, .slice none 0 0), (tW x.item, .slice none 0 0), (nW x.v, .slice none 0 0)] 6 _ rfl rfl (by decide) (fun q hq => by
    simp only [List.mem_cons, List.not_mem_nil, or_false] at hq
    rcases hq with rfl | rfl | rfl | rfl | rfl | rfl <;> exact .nil _ _)
theorem hl_two (w : World) {A1 A2 : Option Addr} {n1 c1 n2 c2 : Nat} {l1 l2 : List Wr} (h1 : HL w 0 (.slice A1 n1 c1) l1) (h2 : HL w 0 (.slice A2 n2 c2) l2) : HL (w.alloc (.cells #[.int .i64 3, .int .i64 0, .string ⟨#[]⟩, .slice A1 n1 c1, .int .i64 3, .int .i64 0, .string ⟨#[]⟩, .slice A2 n2 c2] 60)) 0 (.slice (some ⟨w.heap.size, 0, none⟩) 2 2) [lW l1, lW l2] := by
  have hg := gb_alloc (gb_refl w none) (.cells #[.int .i64 3, .int .i64 0, .string ⟨#[]⟩, .slice A1 n1 c1, .int .i64 3, .int .i64 0, .string ⟨#[]⟩, .slice A2 n2 c2] 60)
  have ho : Own 0 (.slice (some ⟨w.heap.size, 0, none⟩) 2 2) [(lW l1, .slice A1 n1 c1), (lW l2, .slice A2 n2 c2)] (w.alloc (.cells #[.int .i64 3, .int .i64 0, .string ⟨#[]⟩, .slice A1 n1 c1, .int .i64 3, .int .i64 0, .string ⟨#[]⟩, .slice A2 n2 c2] 60)) := ⟨rfl, .inr ⟨w.heap.size, 2, _, rfl, Nat.zero_le _, heap_alloc_new w _, Nat.le_refl _, by decide, rfl, rfl⟩⟩
  exact own_HL ho (by simp) (fun q hq => by
    simp only [List.mem_cons, List.not_mem_nil, or_false] at hq
    rcases hq with rfl | rfl
    · exact h1.kept hg
    · exact h2.kept hg)
theorem encs_le {C : Nat} : ∀ {xs : List Wr}, (∀ x ∈ xs, x.enc.length ≤ C) → (encs xs).length ≤ C * xs.length
  | [], _ => by simp [encs_nil]
  | x :: xs, h => by
    have h1 := h x (by simp)
    have h2 := encs_le (xs := xs) fun y hy => h y (by simp [hy])
    rw [encs_cons, List.length_append, List.length_cons, Nat.mul_succ]; omega
theorem nW_len (n : Int) : (nW n).enc.length = 9 := rfl
theorem tW_len (s : ByteArray) : (tW s).enc.length = 5 + s.size := by
  unfold tW; rw [enc_mk, if_neg (by decide), if_pos rfl]; simp [highs_len]; omega
theorem lW_len (l : List Wr) : (lW l).enc.length = 5 + (encs l).length := lst_len l
theorem st_len {s : St} (hm : MayS s) (hp : s.seen.length ≤ 10000) : (stW s).enc.length ≤ 1099511627776 := by
  have h1 : (encs (s.seen.map runW)).length ≤ 32 * (s.seen.map runW).length := encs_le fun x hx => by
    obtain ⟨r, _, rfl⟩ := List.mem_map.1 hx
    unfold runW
    rw [lW_len, encs_cons, encs_cons, encs_cons, encs_nil]
    simp only [List.length_append, nW_len, List.length_nil]; omega
  have h2 : (encs (s.facts.map factW)).length ≤ 300 * (s.facts.map factW).length := encs_le fun x hx => by
    obtain ⟨f, hf, rfl⟩ := List.mem_map.1 hx
    have hr := (hm.2.2.1 f hf).1
    unfold RightF at hr
    unfold factW factL
    rw [lW_len, encs_cons, encs_cons, encs_cons, encs_cons, encs_cons, encs_cons, encs_nil]
    simp only [List.length_append, nW_len, tW_len, List.length_nil]; omega
  have h3 := hm.2.1
  rw [List.length_map] at h1 h2
  unfold stW
  rw [lW_len, encs_cons, encs_cons, encs_nil, List.length_append, List.length_append, lW_len, lW_len, List.length_nil]
  omega
attribute [local go_sem] Td.upon_value Td.upon_skip Td.upon_enter Td.upon_row Td.look_tmp Td.look_const Td.look_func Td.look_global
set_option maxHeartbeats 40000000 in
set_option maxRecDepth 100000 in
theorem putState_any (A B : Option Addr) (p c n d : Nat) (s : St) (w : World) (hs : SL w A p B n s) (hm : MayS s) (hp : p ≤ 10000) :
    Calls Tryz.prog 12 #[.agg #[.slice A p c, .slice B n d]] w fun e w' => e = .returned (.string (stW s).bytes) ∧ w.grownBy w' none := by
  obtain ⟨h0, hh0⟩ : ∃ h0, w.heap.size = h0 := ⟨_, rfl⟩
  obtain ⟨W0, hW0⟩ : ∃ W0, w.alloc (.cells #[.slice A p c, .slice B n d] 25) = W0 := ⟨_, rfl⟩
  have G0 : w.grownBy W0 none := by rw [← hW0]; exact gb_alloc (gb_refl _ _) _
  have hr0 : Row W0 h0 25 #[.slice A p c, .slice B n d] := by rw [← hW0, ← hh0]; exact Row.new _ _ _
  have HC : Hid (∀ W, W0.grownBy W none → W.cell? ⟨h0, 0, none⟩ = some (.slice A p c) ∧ W.cell? ⟨h0, 1, none⟩ = some (.slice B n d)) := fun W hW => ⟨(hr0.kept hW (by simp)).at_ (i := 0) rfl, (hr0.kept hW (by simp)).at_ (i := 1) rfl⟩
  have HG := Lib.hid G0
  have Hs := Lib.hid (hs.keep G0)
  have Hpn : Hid (p ≤ 10000 ∧ n ≤ 400) := ⟨hp, by rw [← hs.2.1]; exact hm.2.1⟩
  have Henc := Lib.hid (st_len hm (by rw [hs.1.1]; exact hp))
  have HMy : Hid (Calls Tryz.prog 17 #[.agg #[.slice A p c, .slice B n d]] W0 fun e w' => e = .returned (.bool true) ∧ W0.grownBy w' none) := (refMayS_any A B p c n d s W0 (hs.keep G0) (by omega) (by have := Hpn.out; omega)).mono fun e w' hh => hh.yes hm
  obtain ⟨h1, hh1⟩ : ∃ h1, W0.heap.size = h1 := ⟨_, rfl⟩
  have Hb0 : Hid (W0.heap.size ≤ h1 ∧ h1 ≤ W0.heap.size) := ⟨by omega, by omega⟩
  obtain ⟨y0, y1⟩ := HC.out W0 (gb_refl _ _)
  obtain ⟨iW, hi, hz, hs4, hb56⟩ := wire_parts
  have Hi := Lib.hid hi
  have Hz := Lib.hid hz
  have Hs4 := Lib.hid hs4
  have Hb56 := Lib.hid hb56
  clear hi hz hs4 hb56
  clear hr0 hs hm hp G0 hh1
  go_enter Tryz.func12, Tryz.ntmps12
  go_upto_region 1 with fail
  clear hW0 hh0
  go_wp2_with (go_at_call 17; refine HMy.out.mono ?_; rintro e w1 ⟨rfl, g1⟩)
  have Hg1 := Lib.hid g1
  clear g1 y0 y1
  go_loopw [3, 5] (fun rv iv wr => ∃ (k : Nat) (ps : List (Wr × Value)) (u : Value), u = rv ∧ k ≤ p ∧ iv = .int .i64 k ∧ Hid (Own h1 rv ps wr) ∧ Hid (ps.length = k ∧ ps.map Prod.fst = (s.seen.take k).map runW) ∧ Hid (∀ q ∈ ps, HP wr (Off rv) q.2 q.1.l) ∧ W0.grownBy wr none) (fun _ iv _ => p - (intOf iv).toNat)
  case atStart => exact ⟨0, [], _, rfl, Nat.zero_le _, rfl, Own.nil _ _, ⟨rfl, rfl⟩, fun q hq => (by cases hq), Hg1.out⟩
  case round =>
    obtain ⟨k, ps, u, rfl, hk, rfl, Ho, Hm, Hps, hg⟩ := hrel
    obtain ⟨y0, y1⟩ := HC.out wr hg
    by_cases hlt : k < p
    · have d1 : decide (k < p) = true := decide_eq_true hlt
      have d2 : decide ((k : Int) < (p : Int)) = true := decide_eq_true (by omega)
      obtain ⟨x, hx⟩ : ∃ x, s.seen[k]? = some x := ⟨_, List.getElem?_eq_getElem (by rw [Hs.out.1.1]; exact hlt)⟩
      obtain ⟨gB, oB, eA, hgB, hcc⟩ := (Hs.out.1.keep hg).2 (by omega)
      subst eA
      have hc3 := hcc k x hx
      have HX : Hid (∀ W, wr.grownBy W none → W.cell? ⟨gB, oB + k * 3, none⟩ = some (.int .i64 x.d) ∧ W.cell? ⟨gB, oB + k * 3 + 1, none⟩ = some (.int .i64 x.f) ∧ W.cell? ⟨gB, oB + k * 3 + 2, none⟩ = some (.int .i64 x.t)) := fun W hW => by
        have hb := hW.block gB hgB (by simp)
        exact ⟨(World.cell?_of_block (a := ⟨gB, oB + k * 3, none⟩) hb).trans hc3.1, (World.cell?_of_block (a := ⟨gB, oB + k * 3 + 1, none⟩) hb).trans hc3.2.1, (World.cell?_of_block (a := ⟨gB, oB + k * 3 + 2, none⟩) hb).trans hc3.2.2⟩
      have HBk : Hid ((k : Int) < (p : Int)) := by show _ < _; omega
      have Hg := Lib.hid hg
      have Hlt := Lib.hid hlt
      have Hlen : Hid (ps.length ≤ 10000) := by have h1 := Hm.out.1; have h2 := Hpn.out; show _ ≤ _; omega
      have Hnx : Hid ((ps ++ [(lW [nW x.d, nW x.f, nW x.t], Value.nilIface)]).map Prod.fst = (s.seen.take (k + 1)).map runW) := by
        show _ = _
        rw [List.map_append, Hm.out.2, List.take_add_one, hx, List.map_append]; rfl
      have Ht1 : Hid (IntKind.i64.wrap ((k : Int) + 1) = ((k + 1 : Nat) : Int)) := by show _ = _; rw [IntKind.wrap_i64]; have := Hpn.out; omega
      have t1 := Ht1.out
      clear hk hlt hx hgB hcc hc3 hg
      go_upto_region 7 with fail
      clear d1 d2 y0 y1
      apply Tm.wp_region_told_list (le := fun a b => a.grownBy b none) 22 [isV _, isV _, isV _, isV _, isV _, isV _, isV _, isV _, isV _, isV _, isV _, isV _, isV _, isV _, isV _, isV _, isV _, isV _, isV _, intsV x, wireV wr.heap.size [nW x.d, nW x.f, nW x.t], rowV wr.heap.size [nW x.d, nW x.f, nW x.t]]
      case hC => kernel_rfl
      case hlen => rfl
      case hn => rfl
      case hm => kernel_rfl
      case hB => kernel_rfl
      case ht => exact fun _ _ _ h k => gb_none h k
      case hw => exact gb_drew (gb_refl _ _)
      -- 0: ref.go:391 move
      apply Tm.head_is
      · intro W f hW hE h0 K hK
        have e3 := h0 3 (by kernel_rfl)
        conv at e3 => rhs; whnf
        clear hE h0
        refine yes_of (want_free rfl) ?_
        go_simp; exact hK _ _ (gb_refl _ _) rfl
      -- 1: ref.go:391 fieldAddr
      apply Tm.head_is
      · intro W f hW hE h0 K hK
        have e1 := h0 1 (by kernel_rfl)
        conv at e1 => rhs; whnf
        clear hE h0
        refine yes_of (want_free rfl) ?_
        go_simp; exact hK _ _ (gb_refl _ _) rfl
      -- 2: ref.go:391 load
      apply Tm.head_is
      · intro W f hW hE h0 K hK
        have e19 : f 19 = _ := hE 0 19 _ rfl (by kernel_rfl)
        clear hE h0
        refine yes_of (want_free rfl) ?_
        obtain ⟨z0, z1⟩ := HC.out W (gb_none Hg.out hW)
        go_simp; exact hK _ _ (gb_refl _ _) rfl
      -- 3: ref.go:391 move
      apply Tm.head_is
      · intro W f hW hE h0 K hK
        have e5 := h0 5 (by kernel_rfl)
        conv at e5 => rhs; whnf
        clear hE h0
        refine yes_of (want_free rfl) ?_
        go_simp; exact hK _ _ (gb_refl _ _) rfl
      -- 4: ref.go:391 indexAddr
      apply Tm.head_is
      · intro W f hW hE h0 K hK
        have e20 : f 20 = _ := hE 1 20 _ rfl (by kernel_rfl)
        have e21 : f 21 = _ := hE 0 21 _ rfl (by kernel_rfl)
        clear hE h0
        refine yes_of (want_free rfl) ?_
        have b0 := HBk.out
        go_simp; exact hK _ _ (gb_refl _ _) rfl
      -- 5: ref.go:391 fieldAddr
      apply Tm.head_is
      · intro W f hW hE h0 K hK
        have e22 : f 22 = _ := hE 0 22 _ rfl (by kernel_rfl)
        clear hE h0
        refine yes_of (want_free rfl) ?_
        go_simp; exact hK _ _ (gb_refl _ _) rfl
      -- 6: ref.go:391 load
      apply Tm.head_is
      · intro W f hW hE h0 K hK
        have e23 : f 23 = _ := hE 0 23 _ rfl (by kernel_rfl)
        clear hE h0
        refine yes_of (want_free rfl) ?_
        obtain ⟨c0, c1, c2⟩ := HX.out W hW
        go_simp; exact hK _ _ (gb_refl _ _) rfl
      -- 7: ref.go:391 fieldAddr
      apply Tm.head_is
      · intro W f hW hE h0 K hK
        have e1 := h0 1 (by kernel_rfl)
        conv at e1 => rhs; whnf
        clear hE h0
        refine yes_of (want_free rfl) ?_
        go_simp; exact hK _ _ (gb_refl _ _) rfl
      -- 8: ref.go:391 load
      apply Tm.head_is
      · intro W f hW hE h0 K hK
        have e25 : f 25 = _ := hE 0 25 _ rfl (by kernel_rfl)
        clear hE h0
        refine yes_of (want_free rfl) ?_
        obtain ⟨z0, z1⟩ := HC.out W (gb_none Hg.out hW)
        go_simp; exact hK _ _ (gb_refl _ _) rfl
      -- 9: ref.go:391 move
      apply Tm.head_is
      · intro W f hW hE h0 K hK
        have e5 := h0 5 (by kernel_rfl)
        conv at e5 => rhs; whnf
        clear hE h0
        refine yes_of (want_free rfl) ?_
        go_simp; exact hK _ _ (gb_refl _ _) rfl
      -- 10: ref.go:391 indexAddr
      apply Tm.head_is
      · intro W f hW hE h0 K hK
        have e26 : f 26 = _ := hE 1 26 _ rfl (by kernel_rfl)
        have e27 : f 27 = _ := hE 0 27 _ rfl (by kernel_rfl)
        clear hE h0
        refine yes_of (want_free rfl) ?_
        have b0 := HBk.out
        go_simp; exact hK _ _ (gb_refl _ _) rfl
      -- 11: ref.go:391 fieldAddr
      apply Tm.head_is
      · intro W f hW hE h0 K hK
        have e28 : f 28 = _ := hE 0 28 _ rfl (by kernel_rfl)
        clear hE h0
        refine yes_of (want_free rfl) ?_
        go_simp; exact hK _ _ (gb_refl _ _) rfl
      -- 12: ref.go:391 load
      apply Tm.head_is
      · intro W f hW hE h0 K hK
        have e29 : f 29 = _ := hE 0 29 _ rfl (by kernel_rfl)
        clear hE h0
        refine yes_of (want_free rfl) ?_
        obtain ⟨c0, c1, c2⟩ := HX.out W hW
        go_simp; exact hK _ _ (gb_refl _ _) rfl
      -- 13: ref.go:391 fieldAddr
      apply Tm.head_is
      · intro W f hW hE h0 K hK
        have e1 := h0 1 (by kernel_rfl)
        conv at e1 => rhs; whnf
        clear hE h0
        refine yes_of (want_free rfl) ?_
        go_simp; exact hK _ _ (gb_refl _ _) rfl
      -- 14: ref.go:391 load
      apply Tm.head_is
      · intro W f hW hE h0 K hK
        have e31 : f 31 = _ := hE 0 31 _ rfl (by kernel_rfl)
        clear hE h0
        refine yes_of (want_free rfl) ?_
        obtain ⟨z0, z1⟩ := HC.out W (gb_none Hg.out hW)
        go_simp; exact hK _ _ (gb_refl _ _) rfl
      -- 15: ref.go:391 move
      apply Tm.head_is
      · intro W f hW hE h0 K hK
        have e5 := h0 5 (by kernel_rfl)
        conv at e5 => rhs; whnf
        clear hE h0
        refine yes_of (want_free rfl) ?_
        go_simp; exact hK _ _ (gb_refl _ _) rfl
      -- 16: ref.go:391 indexAddr
      apply Tm.head_is
      · intro W f hW hE h0 K hK
        have e32 : f 32 = _ := hE 1 32 _ rfl (by kernel_rfl)
        have e33 : f 33 = _ := hE 0 33 _ rfl (by kernel_rfl)
        clear hE h0
        refine yes_of (want_free rfl) ?_
        have b0 := HBk.out
        go_simp; exact hK _ _ (gb_refl _ _) rfl
      -- 17: ref.go:391 fieldAddr
      apply Tm.head_is
      · intro W f hW hE h0 K hK
        have e34 : f 34 = _ := hE 0 34 _ rfl (by kernel_rfl)
        clear hE h0
        refine yes_of (want_free rfl) ?_
        go_simp; exact hK _ _ (gb_refl _ _) rfl
      -- 18: ref.go:391 load
      apply Tm.head_is
      · intro W f hW hE h0 K hK
        have e35 : f 35 = _ := hE 0 35 _ rfl (by kernel_rfl)
        clear hE h0
        refine yes_of (want_free rfl) ?_
        obtain ⟨c0, c1, c2⟩ := HX.out W hW
        go_simp; exact hK _ _ (gb_refl _ _) rfl
      -- 19: ref.go:391 buildSlice
      apply Tm.head_at intsV_stays
      · intro W f hW hE h0 K hK
        have e24 : f 24 = _ := hE 12 24 _ rfl (by kernel_rfl)
        have e30 : f 30 = _ := hE 6 30 _ rfl (by kernel_rfl)
        have e36 : f 36 = _ := hE 0 36 _ rfl (by kernel_rfl)
        clear hE h0
        refine yes_of (want_free rfl) ?_
        go_simp
        exact hK _ _ (gb_alloc (gb_refl _ _) _) ⟨_, rfl, Row.new _ _ _⟩
      -- 20: ref.go:391 call
      apply Tm.head_at wireV_stays
      · intro W f hW hE h0 K hK
        have e37 := hE 0 37 _ rfl (by kernel_rfl)
        clear hE h0
        refine yes_of (want_free rfl) ?_
        obtain ⟨g3, e37, hr3⟩ := e37
        go_simp
        refine (nums3_any g3 x.d x.f x.t W hr3).mono ?_
        rintro e w1' ⟨A2, c2', rfl, h1, g'⟩
        exact ⟨_, rfl, hK _ _ g' ⟨A2, _, c2', rfl, h1.low hW.size⟩⟩
      -- 21: ref.go:391 buildSlice
      apply Tm.head_at rowV_stays
      · intro W f hW hE h0 K hK
        have e38 := hE 0 38 _ rfl (by kernel_rfl)
        clear hE h0
        refine yes_of (want_free rfl) ?_
        obtain ⟨A2, n2, c2', e38, h1⟩ := e38
        go_simp
        exact hK _ _ (gb_alloc (gb_refl _ _) _) ⟨_, A2, n2, c2', rfl, Row.new _ _ _, h1.kept (gb_alloc (gb_refl _ _) _)⟩
      intro W f hW hA
      simp only [List.take_succ_cons, List.take_zero, List.drop_succ_cons, List.drop_zero, lexIn, Act.put, List.setIfInBounds_toArray, List.set_cons_zero, List.set_cons_succ]
      have e18 : f 18 = _ := hA 21 (some 18) _ rfl
      rw [e18]
      have e39 := hA 0 (some 39) _ rfl
      clear hA
      obtain ⟨gn, A2, n2, c2', e39, hrn, hh⟩ := e39
      rw [e39]
      have Hgw : Hid (W0.grownBy W none) := gb_none Hg.out hW
      have Ho2 : Hid (Own h1 u ps W) := Ho.out.kept hW
      have Hps2 : Hid (∀ q ∈ ps, HP W (Off u) q.2 q.1.l) := fun q hq => ((Hps.out q hq).kept hW)
      have Hoff : Hid (∀ i, u.ownBlock = some i → i < wr.heap.size) := fun i e => (Ho.out.lt i e).2
      have Hhh := Lib.hid hh
      have Hrn := Lib.hid hrn
      have hgs : h1 ≤ W.heap.size := by have h1 := Hgw.out.size; have h2 := Hb0.out; omega
      clear hW hrn hh
      go_wp2_with (at_builtin; go_must (refine wpList_append_own_at _ rfl (.tmp 18) (.tmp 39) 58 rfl h1 60 iW (.agg #[.int .i64 0, .int .i64 0, .string ⟨#[]⟩, .slice none 0 0]) 4 56 Tryz.underlying58 Hi.out Hz.out Hs4.out Hb56.out rfl (by decide) _ ps.length _ rfl Ho2.out ⟨gn, 0, none⟩ 1 1 [.int .i64 3, .int .i64 0, .string ⟨#[]⟩, .slice A2 n2 c2'] rfl rfl (World.news_of_block (cs := #[.int .i64 3, .int .i64 0, .string ⟨#[]⟩, .slice A2 n2 c2']) (t := 60) (fr := (0, 0)) Hrn.out) (one4 _ _ _ _ _ _) (by have := Hlen.out; simp only [maxLen]; omega) (by have := Hlen.out; omega) hgs ?_); intro v' w' own' grow' _ hat; obtain ⟨vA, vn, vc, rfl⟩ := own_slice4 own')
      have Hown : Hid (Own h1 (.slice vA vn vc) (ps ++ [(lW [nW x.d, nW x.f, nW x.t], .slice A2 n2 c2')]) w') := by
        show World.ownsRow _ _ _ _ _ _ _
        rw [flat_snoc, List.length_append]
        exact own'
      have Hg3 : Hid (W0.grownBy w' none) := gb_step Hgw.out grow' (fun i e => .inr (by have h1 := (Ho2.out.lt i e).1; have := Hb0.out; omega))
      have Hps3 : Hid (∀ q ∈ ps ++ [(lW [nW x.d, nW x.f, nW x.t], Value.slice A2 n2 c2')], HP w' (Off (.slice vA vn vc)) q.2 q.1.l) := by
        intro q hq
        rcases List.mem_append.1 hq with hq | hq
        · exact HP.after (Hps2.out q hq) grow' hat
        · rw [List.mem_singleton.1 hq]
          refine HP.after (u := u) ?_ grow' hat
          exact (HP.of Hhh.out).keep (Nat.le_refl _) (fun g hB hl => ⟨rfl, fun e => by have := Hoff.out g e.symm; omega⟩)
      clear own' grow' hat
      go_roundw
      case rel => exact ⟨k + 1, ps ++ [(lW [nW x.d, nW x.f, nW x.t], .slice A2 n2 c2')], _, rfl, by have := Hlt.out; omega, rfl, Hown, ⟨by rw [List.length_append, Hm.out.1]; rfl, by rw [← Hnx.out, List.map_append, List.map_append]; rfl⟩, Hps3, Hg3.out⟩
      case measure => simp [intOf]; have := Hlt.out; omega
    · have hkp : k = p := by omega
      subst hkp
      have d1 : decide (k < k) = false := by simp
      have d2 : decide ((k : Int) < (k : Int)) = false := by simp
      obtain ⟨A1, c1, rfl⟩ := Ho.out.slice
      have hfin : ps.map Prod.fst = s.seen.map runW := by rw [Hm.out.2, List.take_of_length_le (by rw [Hs.out.1.1]; exact Nat.le_refl _)]
      have hll : ps.length = s.seen.length := by rw [Hm.out.1, Hs.out.1.1]
      have HLr : Hid (HL wr 0 (.slice A1 s.seen.length c1) (s.seen.map runW)) := by
        have h := Ho.out.list (by have h1 := Hm.out.1; have h2 := Hpn.out; omega) (fun q hq => (Hps.out q hq).list)
        rw [hfin] at h
        rwa [hll] at h
      rw [hll]
      have Hg := Lib.hid hg
      clear hk hlt hfin hll Hps Ho hg
      go_wp2_with fail
      clear d1 d2
      rename World => W1
      have Hb0' : Hid (W1.heap.size = W1.heap.size) := rfl
      go_loopw [4, 6] (fun rv iv wr => ∃ (k : Nat) (ps : List (Wr × Value)) (u : Value), u = rv ∧ k ≤ n ∧ iv = .int .i64 k ∧ Hid (Own W1.heap.size rv ps wr) ∧ Hid (ps.length = k ∧ ps.map Prod.fst = (s.facts.take k).map factW) ∧ Hid (∀ q ∈ ps, HP wr (Off rv) q.2 q.1.l) ∧ W1.grownBy wr none) (fun _ iv _ => n - (intOf iv).toNat)
      case atStart => exact ⟨0, [], _, rfl, Nat.zero_le _, rfl, Own.nil _ _, ⟨rfl, rfl⟩, fun q hq => (by cases hq), gb_refl _ _⟩
      case round =>
        obtain ⟨k, ps, u, rfl, hk, rfl, Ho, Hm, Hps, hg⟩ := hrel
        obtain ⟨y0, y1⟩ := HC.out wr (gb_none Hg.out hg)
        by_cases hlt : k < n
        · have d1 : decide (k < n) = true := decide_eq_true hlt
          have d2 : decide ((k : Int) < (n : Int)) = true := decide_eq_true (by omega)
          obtain ⟨x, hx⟩ : ∃ x, s.facts[k]? = some x := ⟨_, List.getElem?_eq_getElem (by rw [Hs.out.2.1]; exact hlt)⟩
          obtain ⟨gB, oB, eA, hgB, hcc⟩ := (Hs.out.2.keep (gb_none Hg.out hg)).2 (by omega)
          subst eA
          obtain ⟨v0, v1, v2, v3, v4, v5⟩ := hcc k x hx
          have bk : (k : Int) < (n : Int) := by omega
          have Hgx := Lib.hid hg
          have Hlt := Lib.hid hlt
          have Hlen : Hid (ps.length ≤ 10000) := by have h1 := Hm.out.1; have h2 := Hpn.out; show _ ≤ _; omega
          have Hnx : Hid ((ps ++ [(lW (factL x), Value.nilIface)]).map Prod.fst = (s.facts.take (k + 1)).map factW) := by
            show _ = _
            rw [List.map_append, Hm.out.2, List.take_add_one, hx, List.map_append]; rfl
          have Ht1 : Hid (IntKind.i64.wrap ((k : Int) + 1) = ((k + 1 : Nat) : Int)) := by show _ = _; rw [IntKind.wrap_i64]; have := Hpn.out; omega
          have HX0 : Hid (Row (wr.alloc (.cells #[.int .i64 x.d, .int .i64 x.n, .string x.key, .int .i64 x.kind, .string x.item, .int .i64 x.v] 46)) wr.heap.size 46 #[.int .i64 x.d, .int .i64 x.n, .string x.key, .int .i64 x.kind, .string x.item, .int .i64 x.v]) := Row.new _ _ _
          have Hg4 : Hid (W1.grownBy (wr.alloc (.cells #[.int .i64 x.d, .int .i64 x.n, .string x.key, .int .i64 x.kind, .string x.item, .int .i64 x.v] 46)) none) := gb_alloc hg _
          have Ho4 : Hid (Own W1.heap.size u ps (wr.alloc (.cells #[.int .i64 x.d, .int .i64 x.n, .string x.key, .int .i64 x.kind, .string x.item, .int .i64 x.v] 46))) := Ho.out.kept (gb_alloc (gb_refl _ _) _)
          have Hps4 : Hid (∀ q ∈ ps, HP (wr.alloc (.cells #[.int .i64 x.d, .int .i64 x.n, .string x.key, .int .i64 x.kind, .string x.item, .int .i64 x.v] 46)) (Off u) q.2 q.1.l) := fun q hq => (Hps.out q hq).kept (gb_alloc (gb_refl _ _) _)
          have t1 := Ht1.out
          clear hk hlt hx hgB hcc hg
          go_upto_region 12 with fail
          clear d1 d2 y0 y1 v0 v1 v2 v3 v4 v5 bk Ho Hps
          generalize wr.heap.size = bf at *
          generalize wr.alloc (.cells #[.int .i64 x.d, .int .i64 x.n, .string x.key, .int .i64 x.kind, .string x.item, .int .i64 x.v] 46) = W4 at *
          have HX : Hid (∀ W, W4.grownBy W none → At6 W bf 0 x) := fun W hW => by
            have k := HX0.out.kept hW (by simp)
            exact ⟨k.at_ (i := 0) rfl, k.at_ (i := 1) rfl, k.at_ (i := 2) rfl, k.at_ (i := 3) rfl, k.at_ (i := 4) rfl, k.at_ (i := 5) rfl⟩
          have Hrg := Hg
          replace Hg : Hid (W1.grownBy W4 none) := Hg4.out
          replace Hb0 : Hid (W1.heap.size ≤ W1.heap.size) := Nat.le_refl _
          have Hps := Hps4
          apply Tm.wp_region_told_list (le := fun a b => a.grownBy b none) 24 [isV _, isV _, isV _, isV _, isV _, isV _, isV _, isV _, isV _, isV _, isV _, isV _, isV _, isV _, isV _, isV _, isV _, isV _, isV _, isV _, isV _, sixV W4.heap.size (factL x), wireV W4.heap.size (factL x), rowV W4.heap.size (factL x)]
          case hC => kernel_rfl
          case hlen => rfl
          case hn => rfl
          case hm => kernel_rfl
          case hB => kernel_rfl
          case ht => exact fun _ _ _ h k => gb_none h k
          case hw => exact gb_drew (gb_refl _ _)
          -- 0: ref.go:395 move
          apply Tm.head_is
          · intro W f hW hE h0 K hK
            have e4 := h0 4 (by kernel_rfl)
            conv at e4 => rhs; whnf
            clear hE h0
            refine yes_of (want_free rfl) ?_
            go_simp; exact hK _ _ (gb_refl _ _) rfl
          -- 1: ref.go:395 fieldAddr
          apply Tm.head_is
          · intro W f hW hE h0 K hK
            have e7 := h0 7 (by kernel_rfl)
            conv at e7 => rhs; whnf
            clear hE h0
            refine yes_of (want_free rfl) ?_
            go_simp; exact hK _ _ (gb_refl _ _) rfl
          -- 2: ref.go:395 fieldAddr
          apply Tm.head_is
          · intro W f hW hE h0 K hK
            have e54 : f 54 = _ := hE 0 54 _ rfl (by kernel_rfl)
            clear hE h0
            refine yes_of (want_free rfl) ?_
            go_simp; exact hK _ _ (gb_refl _ _) rfl
          -- 3: ref.go:395 load
          apply Tm.head_is
          · intro W f hW hE h0 K hK
            have e55 : f 55 = _ := hE 0 55 _ rfl (by kernel_rfl)
            clear hE h0
            refine yes_of (want_free rfl) ?_
            obtain ⟨c0, c1, c2, c3, c4, c5⟩ := HX.out W hW
            go_simp; exact hK _ _ (gb_refl _ _) rfl
          -- 4: ref.go:395 call
          apply Tm.head_is
          · intro W f hW hE h0 K hK
            have e56 : f 56 = _ := hE 0 56 _ rfl (by kernel_rfl)
            clear hE h0
            refine yes_of (want_free rfl) ?_
            go_simp
            refine (num1_any x.d W).mono ?_
            rintro e w1' ⟨rfl, g'⟩
            exact ⟨_, rfl, hK _ _ g' rfl⟩
          -- 5: ref.go:395 fieldAddr
          apply Tm.head_is
          · intro W f hW hE h0 K hK
            have e7 := h0 7 (by kernel_rfl)
            conv at e7 => rhs; whnf
            clear hE h0
            refine yes_of (want_free rfl) ?_
            go_simp; exact hK _ _ (gb_refl _ _) rfl
          -- 6: ref.go:395 fieldAddr
          apply Tm.head_is
          · intro W f hW hE h0 K hK
            have e58 : f 58 = _ := hE 0 58 _ rfl (by kernel_rfl)
            clear hE h0
            refine yes_of (want_free rfl) ?_
            go_simp; exact hK _ _ (gb_refl _ _) rfl
          -- 7: ref.go:395 load
          apply Tm.head_is
          · intro W f hW hE h0 K hK
            have e59 : f 59 = _ := hE 0 59 _ rfl (by kernel_rfl)
            clear hE h0
            refine yes_of (want_free rfl) ?_
            obtain ⟨c0, c1, c2, c3, c4, c5⟩ := HX.out W hW
            go_simp; exact hK _ _ (gb_refl _ _) rfl
          -- 8: ref.go:395 call
          apply Tm.head_is
          · intro W f hW hE h0 K hK
            have e60 : f 60 = _ := hE 0 60 _ rfl (by kernel_rfl)
            clear hE h0
            refine yes_of (want_free rfl) ?_
            go_simp
            refine (num1_any x.n W).mono ?_
            rintro e w1' ⟨rfl, g'⟩
            exact ⟨_, rfl, hK _ _ g' rfl⟩
          -- 9: ref.go:395 fieldAddr
          apply Tm.head_is
          · intro W f hW hE h0 K hK
            have e7 := h0 7 (by kernel_rfl)
            conv at e7 => rhs; whnf
            clear hE h0
            refine yes_of (want_free rfl) ?_
            go_simp; exact hK _ _ (gb_refl _ _) rfl
          -- 10: ref.go:395 load
          apply Tm.head_is
          · intro W f hW hE h0 K hK
            have e62 : f 62 = _ := hE 0 62 _ rfl (by kernel_rfl)
            clear hE h0
            refine yes_of (want_free rfl) ?_
            obtain ⟨c0, c1, c2, c3, c4, c5⟩ := HX.out W hW
            go_simp; exact hK _ _ (gb_refl _ _) rfl
          -- 11: ref.go:395 call
          apply Tm.head_is
          · intro W f hW hE h0 K hK
            have e63 : f 63 = _ := hE 0 63 _ rfl (by kernel_rfl)
            clear hE h0
            refine yes_of (want_free rfl) ?_
            go_simp
            refine (text1_any x.key W).mono ?_
            rintro e w1' ⟨rfl, g'⟩
            exact ⟨_, rfl, hK _ _ g' rfl⟩
          -- 12: ref.go:395 fieldAddr
          apply Tm.head_is
          · intro W f hW hE h0 K hK
            have e7 := h0 7 (by kernel_rfl)
            conv at e7 => rhs; whnf
            clear hE h0
            refine yes_of (want_free rfl) ?_
            go_simp; exact hK _ _ (gb_refl _ _) rfl
          -- 13: ref.go:395 load
          apply Tm.head_is
          · intro W f hW hE h0 K hK
            have e65 : f 65 = _ := hE 0 65 _ rfl (by kernel_rfl)
            clear hE h0
            refine yes_of (want_free rfl) ?_
            obtain ⟨c0, c1, c2, c3, c4, c5⟩ := HX.out W hW
            go_simp; exact hK _ _ (gb_refl _ _) rfl
          -- 14: ref.go:395 call
          apply Tm.head_is
          · intro W f hW hE h0 K hK
            have e66 : f 66 = _ := hE 0 66 _ rfl (by kernel_rfl)
            clear hE h0
            refine yes_of (want_free rfl) ?_
            go_simp
            refine (num1_any x.kind W).mono ?_
            rintro e w1' ⟨rfl, g'⟩
            exact ⟨_, rfl, hK _ _ g' rfl⟩
          -- 15: ref.go:395 fieldAddr
          apply Tm.head_is
          · intro W f hW hE h0 K hK
            have e7 := h0 7 (by kernel_rfl)
            conv at e7 => rhs; whnf
            clear hE h0
            refine yes_of (want_free rfl) ?_
            go_simp; exact hK _ _ (gb_refl _ _) rfl
          -- 16: ref.go:395 load
          apply Tm.head_is
          · intro W f hW hE h0 K hK
            have e68 : f 68 = _ := hE 0 68 _ rfl (by kernel_rfl)
            clear hE h0
            refine yes_of (want_free rfl) ?_
            obtain ⟨c0, c1, c2, c3, c4, c5⟩ := HX.out W hW
            go_simp; exact hK _ _ (gb_refl _ _) rfl
          -- 17: ref.go:395 call
          apply Tm.head_is
          · intro W f hW hE h0 K hK
            have e69 : f 69 = _ := hE 0 69 _ rfl (by kernel_rfl)
            clear hE h0
            refine yes_of (want_free rfl) ?_
            go_simp
            refine (text1_any x.item W).mono ?_
            rintro e w1' ⟨rfl, g'⟩
            exact ⟨_, rfl, hK _ _ g' rfl⟩
          -- 18: ref.go:395 fieldAddr
          apply Tm.head_is
          · intro W f hW hE h0 K hK
            have e7 := h0 7 (by kernel_rfl)
            conv at e7 => rhs; whnf
            clear hE h0
            refine yes_of (want_free rfl) ?_
            go_simp; exact hK _ _ (gb_refl _ _) rfl
          -- 19: ref.go:395 load
          apply Tm.head_is
          · intro W f hW hE h0 K hK
            have e71 : f 71 = _ := hE 0 71 _ rfl (by kernel_rfl)
            clear hE h0
            refine yes_of (want_free rfl) ?_
            obtain ⟨c0, c1, c2, c3, c4, c5⟩ := HX.out W hW
            go_simp; exact hK _ _ (gb_refl _ _) rfl
          -- 20: ref.go:395 call
          apply Tm.head_is
          · intro W f hW hE h0 K hK
            have e72 : f 72 = _ := hE 0 72 _ rfl (by kernel_rfl)
            clear hE h0
            refine yes_of (want_free rfl) ?_
            go_simp
            refine (num1_any x.v W).mono ?_
            rintro e w1' ⟨rfl, g'⟩
            exact ⟨_, rfl, hK _ _ g' rfl⟩
          -- 21: ref.go:395 buildSlice
          apply Tm.head_at sixV_stays
          · intro W f hW hE h0 K hK
            have e57 : f 57 = _ := hE 16 57 _ rfl (by kernel_rfl)
            have e61 : f 61 = _ := hE 12 61 _ rfl (by kernel_rfl)
            have e64 : f 64 = _ := hE 9 64 _ rfl (by kernel_rfl)
            have e67 : f 67 = _ := hE 6 67 _ rfl (by kernel_rfl)
            have e70 : f 70 = _ := hE 3 70 _ rfl (by kernel_rfl)
            have e73 : f 73 = _ := hE 0 73 _ rfl (by kernel_rfl)
            clear hE h0
            refine yes_of (want_free rfl) ?_
            go_simp
            exact hK _ _ (gb_alloc (gb_refl _ _) _) ⟨_, rfl, (hl_six x W).low hW.size⟩
          -- 22: ref.go:395 call
          apply Tm.head_at wireV_stays
          · intro W f hW hE h0 K hK
            have e74 := hE 0 74 _ rfl (by kernel_rfl)
            clear hE h0
            refine yes_of (want_free rfl) ?_
            obtain ⟨g3, e74, h1⟩ := e74
            go_simp
            refine (list1_any (some ⟨g3, 0, none⟩) 6 6 W).mono ?_
            rintro e w1' ⟨rfl, g'⟩
            exact ⟨_, rfl, hK _ _ g' ⟨_, _, _, rfl, h1.kept g'⟩⟩
          -- 23: ref.go:395 buildSlice
          apply Tm.head_at rowV_stays
          · intro W f hW hE h0 K hK
            have e75 := hE 0 75 _ rfl (by kernel_rfl)
            clear hE h0
            refine yes_of (want_free rfl) ?_
            obtain ⟨A2, n2, c2', e75, h1⟩ := e75
            go_simp
            exact hK _ _ (gb_alloc (gb_refl _ _) _) ⟨_, A2, n2, c2', rfl, Row.new _ _ _, h1.kept (gb_alloc (gb_refl _ _) _)⟩
          intro W f hW hA
          simp only [List.take_succ_cons, List.take_zero, List.drop_succ_cons, List.drop_zero, lexIn, Act.put, List.setIfInBounds_toArray, List.set_cons_zero, List.set_cons_succ]
          have e53 : f 53 = _ := hA 23 (some 53) _ rfl
          rw [e53]
          have e76 := hA 0 (some 76) _ rfl
          clear hA
          obtain ⟨gn, A2, n2, c2', e76, hrn, hh⟩ := e76
          rw [e76]
          have Hgw : Hid (W1.grownBy W none) := gb_none Hg.out hW
          have Ho2 : Hid (Own W1.heap.size u ps W) := Ho4.out.kept hW
          have Hps2 : Hid (∀ q ∈ ps, HP W (Off u) q.2 q.1.l) := fun q hq => ((Hps.out q hq).kept hW)
          have Hoff : Hid (∀ i, u.ownBlock = some i → i < W4.heap.size) := fun i e => (Ho4.out.lt i e).2
          have Hhh := Lib.hid hh
          have Hrn := Lib.hid hrn
          have hgs : W1.heap.size ≤ W.heap.size := by have h1 := Hgw.out.size; have h2 := Hb0.out; omega
          clear hW hrn hh
          go_wp2_with (at_builtin; go_must (refine wpList_append_own_at _ rfl (.tmp 53) (.tmp 76) 58 rfl W1.heap.size 60 iW (.agg #[.int .i64 0, .int .i64 0, .string ⟨#[]⟩, .slice none 0 0]) 4 56 Tryz.underlying58 Hi.out Hz.out Hs4.out Hb56.out rfl (by decide) _ ps.length _ rfl Ho2.out ⟨gn, 0, none⟩ 1 1 [.int .i64 3, .int .i64 0, .string ⟨#[]⟩, .slice A2 n2 c2'] rfl rfl (World.news_of_block (cs := #[.int .i64 3, .int .i64 0, .string ⟨#[]⟩, .slice A2 n2 c2']) (t := 60) (fr := (0, 0)) Hrn.out) (one4 _ _ _ _ _ _) (by have := Hlen.out; simp only [maxLen]; omega) (by have := Hlen.out; omega) hgs ?_); intro v' w' own' grow' _ hat; obtain ⟨vA, vn, vc, rfl⟩ := own_slice4 own')
          have Hown : Hid (Own W1.heap.size (.slice vA vn vc) (ps ++ [(lW (factL x), .slice A2 n2 c2')]) w') := by
            show World.ownsRow _ _ _ _ _ _ _
            rw [flat_snoc, List.length_append]
            exact own'
          have Hg3 : Hid (W1.grownBy w' none) := gb_step Hgw.out grow' (fun i e => .inr (by have h1 := (Ho2.out.lt i e).1; have := Hb0.out; omega))
          have Hps3 : Hid (∀ q ∈ ps ++ [(lW (factL x), Value.slice A2 n2 c2')], HP w' (Off (.slice vA vn vc)) q.2 q.1.l) := by
            intro q hq
            rcases List.mem_append.1 hq with hq | hq
            · exact HP.after (Hps2.out q hq) grow' hat
            · rw [List.mem_singleton.1 hq]
              refine HP.after (u := u) ?_ grow' hat
              exact (HP.of Hhh.out).keep (Nat.le_refl _) (fun g hB hl => ⟨rfl, fun e => by have := Hoff.out g e.symm; omega⟩)
          clear own' grow' hat
          go_roundw
          case rel => exact ⟨k + 1, ps ++ [(lW (factL x), .slice A2 n2 c2')], _, rfl, by have := Hlt.out; omega, rfl, Hown, ⟨by rw [List.length_append, Hm.out.1]; rfl, by rw [← Hnx.out, List.map_append, List.map_append]; rfl⟩, Hps3, Hg3.out⟩
          case measure => simp [intOf]; have := Hlt.out; omega
        · have hkn : k = n := by omega
          subst hkn
          have d1 : decide (k < k) = false := by simp
          have d2 : decide ((k : Int) < (k : Int)) = false := by simp
          obtain ⟨A2, c2, rfl⟩ := Ho.out.slice
          have hfin : ps.map Prod.fst = s.facts.map factW := by rw [Hm.out.2, List.take_of_length_le (by rw [Hs.out.2.1]; exact Nat.le_refl _)]
          have hll : ps.length = s.facts.length := by rw [Hm.out.1, Hs.out.2.1]
          have HLf : Hid (HL wr 0 (.slice A2 s.facts.length c2) (s.facts.map factW)) := by
            have h := Ho.out.list (by have h1 := Hm.out.1; have h2 := Hpn.out; omega) (fun q hq => (Hps.out q hq).list)
            rw [hfin] at h
            rwa [hll] at h
          rw [hll]
          have HLr2 : Hid (HL wr 0 (.slice A1 s.seen.length c1) (s.seen.map runW)) := HLr.out.kept hg
          have Hg2 : Hid (w.grownBy wr none) := gb_none HG.out (gb_none Hg.out hg)
          clear hk hlt hfin hll Hps Ho hg
          go_wp2_with (go_at_call 30; first
            | (with_reducible refine (list1_any A1 s.seen.length c1 wr).mono ?_); rintro e v1 ⟨rfl, g1⟩; have Hv1 := Lib.hid g1; clear g1
            | (with_reducible refine (list1_any A2 s.facts.length c2 v1).mono ?_); rintro e v2 ⟨rfl, g2⟩; have Hv2 := Lib.hid (gb_none Hv1.out g2); clear g2
            | (with_reducible refine (list1_any (some ⟨v2.heap.size, 0, none⟩) 2 2 _).mono ?_); rintro e v3 ⟨rfl, g3⟩; have Hv3 := Lib.hid g3; clear g3)
          have hW4 := gb_alloc Hv2.out (.cells #[.int .i64 3, .int .i64 0, .string ⟨#[]⟩, .slice A1 s.seen.length c1, .int .i64 3, .int .i64 0, .string ⟨#[]⟩, .slice A2 s.facts.length c2] 60)
          have HPW : Hid (Calls Tryz.prog 33 #[.agg #[.int .i64 3, .int .i64 0, .string ⟨#[]⟩, .slice (some ⟨v2.heap.size, 0, none⟩) 2 2]] v3 fun e w' => e = .returned (.string (stW s).bytes) ∧ v3.grownBy w' none) := putwire_all (stW s) _ v3 ((hl_two v2 (HLr2.out.kept Hv2.out) (HLf.out.kept Hv2.out)).kept Hv3.out) Henc.out
          have Hend : Hid (w.grownBy v3 none) := gb_none (gb_none Hg2.out hW4) Hv3.out
          clear hW4
          go_wp2_with (go_at_call 33; refine HPW.out.mono ?_; rintro e v4 ⟨rfl, g4⟩)
          go_ret
          exact ⟨rfl, gb_none Hend.out g4⟩
end Go.Proofs.YthijiefopcnclaaGreatDoor.Dt
