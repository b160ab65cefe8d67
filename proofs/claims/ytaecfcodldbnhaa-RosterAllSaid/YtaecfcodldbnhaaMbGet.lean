/- Records told by bytes, as the program reads them. Written by gen_mbget.py. -/
import Derived.Test.YtaecfcodldbnhaaMbMay
import Derived.Test.YtaecfcodldbnhaaVD
import Derived.Test.YtaecfcodldbnhaaToldM
import Derived.Deep.DeepCutAuto
import Derived.Deep.AppendLies
import Derived.Maps.AppendAt
set_option linter.unusedVariables false
namespace Go.Proofs.Ytaecfcodldbnhaa.Mb
open Go Go.RowKit Go.Proofs.Ytaecfcodldbnhaa.Mm Go.Proofs.Ytaecfcodldbnhaa.Td Go.Proofs.Ytaecfcodldbnhaa.Vw Go.Proofs.Ytaecfcodldbnhaa.Dt

attribute [local go_sem] Td.upon_value Td.upon_skip Td.upon_enter Td.upon_row Td.look_tmp Td.look_const Td.look_func Td.look_global
theorem ints_row {W : World} {g : Nat} {T : TypeId} (ks : List Int) (hr : Row W g T (ks.map (fun k => Value.int .i64 k)).toArray) : ∀ i k, ks[i]? = some k → W.cell? ⟨g, i, none⟩ = some (.int .i64 k) := fun i k hi => hr.at_ (by rw [List.getElem?_toArray, List.getElem?_map, hi]; rfl)
theorem own_keep {w w' : World} {B : Nat} {e : TypeId} {s : Nat} {v : Value} {n : Nat} {xs : List Value} (h : w.ownsRow B e s v n xs) (g : w.grownBy w' none) : w'.ownsRow B e s v n xs := World.ownsRow.kept h g (by cases hv : Value.ownBlock _ with | none => exact .inl rfl | some q => exact .inr (by simp))
theorem wrap_inf : (Try.prog.info? 58).map (fun i => (i.zero, i.size, i.bytes)) = some (some (.agg #[.int .i64 0, .string ⟨#[]⟩]), 2, 24) := by kernel_rfl
theorem wrap_parts : ∃ i, Try.prog.info? 58 = some i ∧ i.zero = some (.agg #[.int .i64 0, .string ⟨#[]⟩]) ∧ i.size = 2 ∧ i.bytes = 24 := by
  obtain ⟨i, hi, h⟩ := Option.map_eq_some_iff.1 wrap_inf
  simp only [Prod.mk.injEq] at h
  exact ⟨i, hi, h.1, h.2.1, h.2.2⟩
/-- A list of just these kinds. -/
def ItemsOk (x : Wr) (ks : List Int) : Prop := x.k = 3 ∧ x.l.map Wr.k = ks
/-- .. its block from B on. -/
def WLb (w : World) (B : Nat) (A : Option Addr) (n : Nat) (l : List Wp) : Prop := l.length = n ∧ (0 < n → ∃ g o, A = some ⟨g, o, none⟩ ∧ B ≤ g ∧ g < w.heap.size ∧ ∀ i x, l[i]? = some x → WAt w g (o + i * 2) x)
theorem WLb.wl {w : World} {B : Nat} {A : Option Addr} {n : Nat} {l : List Wp} (h : WLb w B A n l) : WL w A n l := ⟨h.1, fun hn => by
  obtain ⟨g, o, e, _, hg, hc⟩ := h.2 hn
  exact ⟨g, o, e, hg, hc⟩⟩
theorem WLb.low {w : World} {B B' : Nat} {A : Option Addr} {n : Nat} {l : List Wp} (h : WLb w B A n l) (hB : B' ≤ B) : WLb w B' A n l := ⟨h.1, fun hn => by
  obtain ⟨g, o, e, hb, hg, hc⟩ := h.2 hn
  exact ⟨g, o, e, Nat.le_trans hB hb, hg, hc⟩⟩
theorem WLb.past {w w' : World} {B : Nat} {A : Option Addr} {n : Nat} {l : List Wp} {r : Option Nat} (h : WLb w B A n l) (k : w.grownBy w' r) (hr : ∀ i, r = some i → i < B) : WLb w' B A n l := ⟨h.1, fun hn => by
  obtain ⟨g, o, e, hb, hg, hc⟩ := h.2 hn
  exact ⟨g, o, e, hb, Nat.lt_of_lt_of_le hg k.size, fun i x hx => (hc i x hx).kept hg k (fun e => by have := hr g e.symm; omega)⟩⟩
theorem WLb.keep {w w' : World} {B : Nat} {A : Option Addr} {n : Nat} {l : List Wp} (h : WLb w B A n l) (k : w.grownBy w' none) : WLb w' B A n l := h.past k (fun i e => by cases e)
theorem own_wlb {w : World} {B n : Nat} {t : TypeId} {v : Value} {l : List Wp} (h : w.ownsRow B t 2 v n (wv l)) (hn : l.length = n) : ∃ A c, v = .slice A n c ∧ WLb w B A n l ∧ n ≤ c := by
  obtain ⟨A, c, e, h1, h2⟩ := own_wl h hn
  refine ⟨A, c, e, ⟨h1.1, fun h0 => ?_⟩, h2⟩
  obtain ⟨g, o, eA, hg, hc⟩ := h1.2 h0
  exact ⟨g, o, eA, (h.lt g (by rw [e, eA]; rfl)).1, hg, hc⟩
/-- One wrap in a row, told. -/
def wrapV (x : Wp) : Td.Spec := fun W v => ∃ g, v = .slice (some ⟨g, 0, none⟩) 1 1 ∧ Row W g 58 #[.int .i64 x.d, .string x.box]
theorem wrapV_stays {x : Wp} : Stays (fun a b => a.grownBy b none) (wrapV x) := fun _ _ _ h ⟨g, e, hr⟩ => ⟨g, e, hr.kept h (by simp)⟩
/-- What wrapsOf says of a wire. -/
def WrapsIs (x : Wr) (w : World) (e : Ending) (w' : World) : Prop := ((∃ l A2 c2, allOf wrapOfW x.l = some l ∧ e = .returned (.tuple #[.slice A2 l.length c2, .bool true]) ∧ WLb w' w.heap.size A2 l.length l ∧ l.length ≤ c2) ∨ (allOf wrapOfW x.l = none ∧ e = .returned (.tuple #[.slice none 0 0, .bool false]))) ∧ w.grownBy w' none
/-- What recordOf says of a wire. -/
def RecOfIs (x : Wr) (w : World) (e : Ending) (w' : World) : Prop := ((∃ r A c, recOfW x = some r ∧ e = .returned (.tuple #[.agg (recCs r A c), .bool true]) ∧ WLb w' w.heap.size A r.wraps.length r.wraps ∧ r.wraps.length ≤ c ∧ r.wraps.length ≤ 1099511627776) ∨ (recOfW x = none ∧ e = .returned (.tuple #[.agg #[.int .i64 0, .string ⟨#[]⟩, .int .i64 0, .int .i64 0, .slice none 0 0, .string ⟨#[]⟩], .bool false]))) ∧ w.grownBy w' none
/-- What Get says of bytes. -/
def GetIs (s : ByteArray) (w : World) (e : Ending) (w' : World) : Prop := ((∃ r A c, IsRec s.data.toList r ∧ e = .returned (.tuple #[.agg (recCs r A c), .bool true]) ∧ WLb w' w.heap.size A r.wraps.length r.wraps ∧ r.wraps.length ≤ c) ∨ ((∀ r, ¬ IsRec s.data.toList r) ∧ e = .returned (.tuple #[.agg #[.int .i64 0, .string ⟨#[]⟩, .int .i64 0, .int .i64 0, .slice none 0 0, .string ⟨#[]⟩], .bool false]))) ∧ w.grownBy w' none
end Go.Proofs.Ytaecfcodldbnhaa.Mb
