/- The document's Part, PutState of what may not be; what GetState comes to. Written by gen_snref.py. -/
import Derived.Test.YthijiefopcnclaaGreatDoorSnPut
import Derived.Test.YthijiefopcnclaaGreatDoorFtMake
import Derived.Test.YthijiefopcnclaaGreatDoorDtJoin
import Derived.Test.YthijiefopcnclaaGreatDoorToldM
import Derived.Test.YthijiefopcnclaaGreatDoorToldP
set_option linter.unusedVariables false
namespace Go.Proofs.YthijiefopcnclaaGreatDoor.Dt
open Go Go.RowKit Go.Proofs.YthijiefopcnclaaGreatDoor.Mm Go.Proofs.YthijiefopcnclaaGreatDoor.Td Go.Proofs.YthijiefopcnclaaGreatDoor.Vw

/-- A wire of a list, by its place; where there is none, nothing. -/
def partW (x : Wr) (i : Nat) : Wr := x.l.getD i (.mk 0 0 ⟨#[]⟩ [])
def runR (x : Wr) : Rn := ⟨(partW x 0).n, (partW x 1).n, (partW x 2).n⟩
def factR (x : Wr) : Fc := ⟨(partW x 0).n, (partW x 1).n, (partW x 2).s, (partW x 3).n, (partW x 4).s, (partW x 5).n⟩
/-- The state that a wire says, its shape not looked at. -/
def stR (x : Wr) : St := ⟨(partW x 0).l.map runR, (partW x 1).l.map factR⟩
theorem partW_some {x y : Wr} {i : Nat} (h : x.l[i]? = some y) : partW x i = y := by unfold partW; rw [List.getD_eq_getElem?_getD, h]; rfl
theorem partW_none {x : Wr} {i : Nat} (h : x.l.length ≤ i) : partW x i = .mk 0 0 ⟨#[]⟩ [] := by unfold partW; rw [List.getD_eq_getElem?_getD, List.getElem?_eq_none h]; rfl
theorem runR_run (r : Rn) : runR (runW r) = r := rfl
theorem factR_fact (f : Fc) : factR (factW f) = f := rfl
theorem stR_st (s : St) : stR (stW s) = s := by
  unfold stR
  have e1 : (partW (stW s) 0).l = s.seen.map runW := rfl
  have e2 : (partW (stW s) 1).l = s.facts.map factW := rfl
  rw [e1, e2, List.map_map, List.map_map]
  have h1 : s.seen.map (runR ∘ runW) = s.seen := by
    rw [show (runR ∘ runW) = id from funext fun r => runR_run r, List.map_id]
  have h2 : s.facts.map (factR ∘ factW) = s.facts := by
    rw [show (factR ∘ factW) = id from funext fun r => factR_fact r, List.map_id]
  rw [h1, h2]
theorem enc_five (x : Wr) : 5 ≤ x.enc.length := by
  obtain ⟨k, n, s, l⟩ := x
  rw [enc_mk]
  by_cases h1 : k = 1
  · simp [h1, highs_len]
  · by_cases h2 : k = 2
    · simp [h2, highs_len]
    · simp [h1, h2, highs_len]
theorem encs_five : ∀ l : List Wr, 5 * l.length ≤ (encs l).length
  | [] => by simp
  | x :: l => by
    have h1 := encs_five l
    have h2 := enc_five x
    rw [encs_cons, List.length_append, List.length_cons]; omega
theorem fit_five {x : Wr} {R : Int} (h : x.fit R = true) : 5 * x.l.length ≤ x.enc.length := by
  obtain ⟨k, n, s, l⟩ := x
  have hk := (fit_kinds h).1
  have h1 := (fit_kinds h).2.1
  rcases hk with rfl | ⟨rfl, rfl⟩ | ⟨rfl, rfl⟩
  · rw [h1 rfl]; simp
  · simp
  · rw [enc_list _ _ _ _ (by decide) (by decide)]
    have := encs_five l
    simp only [Wr.l_mk]; omega
theorem part_short {b : List UInt8} {x : Wr} (hg : get b = some x) (i : Nat) : 5 * (partW x i).l.length ≤ b.length := by
  obtain ⟨he, hm, _⟩ := get_back hg
  by_cases hi : i < x.l.length
  · obtain ⟨y, hx⟩ : ∃ y, x.l[i]? = some y := ⟨_, List.getElem?_eq_getElem hi⟩
    rw [partW_some hx]
    have hmem : y ∈ x.l := List.mem_of_getElem? hx
    unfold Wr.may at hm
    obtain ⟨k, n, s, l⟩ := x
    have hk := (fit_kinds hm).1
    have h1 := (fit_kinds hm).2.1
    have h3 := (fit_kinds hm).2.2.1
    simp only [Wr.l_mk] at hi hx hmem ⊢
    rcases hk with rfl | ⟨rfl, rfl⟩ | ⟨rfl, rfl⟩
    · rw [h1 rfl] at hmem; cases hmem
    · cases hmem
    · have h4 := fit_five (h3 rfl _ hmem)
      have h5 := encs_part l i _ hx
      rw [he, enc_list _ _ _ _ (by decide) (by decide)]
      omega
  · rw [partW_none (by omega)]; simp
theorem stR_put {b : List UInt8} {x : Wr} {t : St} (hg : get b = some x) (h : IsPut b t) : stR x = t := by
  have h1 := put_get h
  rw [hg] at h1
  injection h1 with h1
  rw [h1, stR_st]
theorem stR_back {s : ByteArray} {x : Wr} (hg : get s.data.toList = some x) (hm : MayS (stR x)) (hb : (stW (stR x)).bytes = s) (hs : s.size ≤ 3000) : IsPut s.data.toList (stR x) := by
  have hl : (stR x).seen.length ≤ 65536 := by
    have h1 := part_short hg 0
    have h2 : s.data.toList.length = s.size := data_len s
    show ((partW x 0).l.map runR).length ≤ 65536
    rw [List.length_map]; omega
  refine ⟨⟨hm, hl⟩, ?_⟩
  rw [put_bytes ⟨hm, hl⟩] at hb
  rw [← hb]
theorem row1 (w : World) (o : Obj) (T : TypeId) (cs : Array Value) : Row ((w.alloc o).alloc (.cells cs T)) (w.heap.size + 1) T cs := by
  have h := Row.new (w.alloc o) T cs
  rwa [World.size_alloc] at h
/-- The part of a wire that is handed back, in whatever world from here on. -/
def PartAt (w : World) (x : Wr) (A : Option Addr) (c i : Nat) (A2 : Option Addr) (c2 : Nat) : Prop := HL w 0 (.slice A2 (partW x i).l.length c2) (partW x i).l ∧ ∀ W, w.grownBy W none → Calls Tryz.prog 21 #[.agg #[.int .i64 x.k, .int .i64 x.n, .string x.s, .slice A x.l.length c], .int .i64 (i : Int)] W fun e w' => e = .returned (.agg #[.int .i64 (partW x i).k, .int .i64 (partW x i).n, .string (partW x i).s, .slice A2 (partW x i).l.length c2]) ∧ W.grownBy w' none
set_option maxHeartbeats 8000000 in
set_option maxRecDepth 100000 in
theorem part_some (x y : Wr) (A : Option Addr) (c i : Nat) (w : World) (h : HL w 0 (.slice A x.l.length c) x.l) (hy : x.l[i]? = some y) : ∃ A2 c2, PartAt w x A c i A2 c2 := by
  obtain ⟨g, o, A2, c2, rfl, _, hg, y0, y1, y2, y3, hl⟩ := h.item hy
  rw [← partW_some hy] at y0 y1 y2 y3 hl
  refine ⟨A2, c2, hl, fun W hW => ?_⟩
  have hi : i < x.l.length := (List.getElem?_eq_some_iff.1 hy).1
  obtain ⟨n, hn⟩ : ∃ n, x.l.length = n := ⟨_, rfl⟩
  rw [hn] at hi ⊢
  have hb := hW.block g hg (by simp)
  replace y0 := (World.cell?_of_block (a := ⟨g, o + i * 4, none⟩) hb).trans y0
  replace y1 := (World.cell?_of_block (a := ⟨g, o + i * 4 + 1, none⟩) hb).trans y1
  replace y2 := (World.cell?_of_block (a := ⟨g, o + i * 4 + 2, none⟩) hb).trans y2
  replace y3 := (World.cell?_of_block (a := ⟨g, o + i * 4 + 3, none⟩) hb).trans y3
  have d1 : decide ((n : Int) ≤ (i : Int)) = false := decide_eq_false (by omega)
  have d2 : decide (n ≤ i) = false := decide_eq_false (by omega)
  have d3 : decide (i < n) = true := decide_eq_true hi
  have d4 : decide ((i : Int) < (n : Int)) = true := decide_eq_true (by omega)
  generalize (partW x i).l.length = ln at *
  generalize (partW x i).k = yk at *
  generalize (partW x i).n = yn at *
  generalize (partW x i).s = ys at *
  generalize x.k = xk
  generalize x.n = xn
  generalize x.s = xs
  have hgW : g < W.heap.size := Nat.lt_of_lt_of_le hg hW.size
  clear h hy hl hn hb hg hW
  go_enter Tryz.func21, Tryz.ntmps21
  go_wp2_with fail
  exact bodyPost_ret (results_cell_row rfl _ _ (W.heap.size + 1) 60 _ (0, 0) _ rfl (row1 W _ _ _) Tryz.underlying60 rfl (by kernel_rfl)) rfl ⟨rfl, gb_alloc (gb_alloc (gb_refl _ _) _) _⟩
set_option maxHeartbeats 8000000 in
set_option maxRecDepth 100000 in
theorem part_none (x : Wr) (A : Option Addr) (c i : Nat) (w : World) (hi : x.l.length ≤ i) : ∃ A2 c2, PartAt w x A c i A2 c2 := by
  refine ⟨none, 0, by rw [partW_none hi]; exact .nil _ _, fun W hW => ?_⟩
  rw [partW_none hi]
  obtain ⟨n, hn⟩ : ∃ n, x.l.length = n := ⟨_, rfl⟩
  rw [hn] at hi ⊢
  have d1 : decide ((n : Int) ≤ (i : Int)) = true := decide_eq_true (by omega)
  have d2 : decide (n ≤ i) = true := decide_eq_true (by omega)
  generalize x.k = xk
  generalize x.n = xn
  generalize x.s = xs
  clear hn hi hW
  go_enter Tryz.func21, Tryz.ntmps21
  go_wp2_with fail
  exact bodyPost_ret (results_cell_row rfl _ _ (W.heap.size + 1) 60 _ (0, 0) _ rfl (row1 W _ _ _) Tryz.underlying60 rfl (by kernel_rfl)) rfl ⟨rfl, gb_alloc (gb_alloc (gb_refl _ _) _) _⟩
theorem part_at (x : Wr) (A : Option Addr) (c i : Nat) (w : World) (h : HL w 0 (.slice A x.l.length c) x.l) : ∃ A2 c2, PartAt w x A c i A2 c2 := by
  by_cases hi : i < x.l.length
  · exact part_some x _ A c i w h (List.getElem?_eq_getElem hi)
  · exact part_none x A c i w (by omega)
set_option maxHeartbeats 8000000 in
set_option maxRecDepth 100000 in
theorem refPut_no (A B : Option Addr) (p c n d : Nat) (s : St) (w : World) (hs : SL w A p B n s) (hm : ¬ MayS s) (hp : p ≤ 100000) (hn : n ≤ 1099511627776) : Calls Tryz.prog 12 #[.agg #[.slice A p c, .slice B n d]] w fun e w' => e = .returned (.string ⟨#[]⟩) ∧ w.grownBy w' none := by
  have HM : Hid (∀ W, w.grownBy W none → Calls Tryz.prog 17 #[.agg #[.slice A p c, .slice B n d]] W fun e w' => e = .returned (.bool false) ∧ W.grownBy w' none) := fun W hW => (refMayS_any A B p c n d s W (hs.keep hW) hp hn).mono fun _ _ h => h.no hm
  clear hs hm hp hn
  go_enter Tryz.func12, Tryz.ntmps12
  go_wp2_with fail
  refine (HM.out _ (gb_alloc (gb_refl _ _) _)).mono ?_
  rintro e w2 ⟨rfl, g2⟩
  have Hg2 := Lib.hid (gb_none (gb_alloc (gb_refl w none) _) g2)
  clear g2
  go_wp2_with fail
  go_ret
  exact ⟨rfl, Hg2.out⟩
theorem own_set {w : World} {B b i : Nat} {e : TypeId} {s : Nat} {v : Value} {n : Nat} {xs : List Value} {x : Value} (h : w.ownsRow B e s v n xs) (hb : b < B) : (w.setCell ⟨b, i, none⟩ x).ownsRow B e s v n xs := by
  refine World.ownsRow.kept h (gb_set1 w b i x) (.inr fun e => ?_)
  have := (h.lt b e).1
  omega
theorem own_keep {w w' : World} {B : Nat} {e : TypeId} {s : Nat} {v : Value} {n : Nat} {xs : List Value} (h : w.ownsRow B e s v n xs) (g : w.grownBy w' none) : w'.ownsRow B e s v n xs := World.ownsRow.kept h g (by cases hv : Value.ownBlock _ with | none => exact .inl rfl | some q => exact .inr (by simp))
theorem HP.lt {w : World} {B N : Nat} {v : Value} {l : List Wr} (h : HL w B v l) (hN : w.heap.size ≤ N) : HP w (fun g => g < N) v l := by
  induction h with
  | nil A c => exact .nil A c
  | row g o c l L hB hg hn hk hv hs hL hl ih => exact .row g o c l L (by omega) hg hn hk hv hs hL ih
/-- A list that lay there ahead of a block stays, whatever is written into that one. -/
theorem hl_past {w w' : World} {B b : Nat} {v : Value} {l : List Wr} (h : HL w B v l) (hb : w.heap.size ≤ b) (hg : w.grownBy w' (some b)) : HL w' 0 v l :=
  HP.list ((HP.lt h hb).keep (Q := fun _ => True) hg.size (fun g hP hl => ⟨hg.block g hl (fun e => by have := Option.some.inj e; omega), trivial⟩))
end Go.Proofs.YthijiefopcnclaaGreatDoor.Dt
