/- The document's PutWire. -/
import Derived.Test.YtbammjhafgbfkaaDoorVDPut
import Derived.Test.YtbammjhafgbfkaaDoorVPutL
namespace Go.Proofs.YtbammjhafgbfkaaDoor
open Go.RowKit Wd Mm Vw

theorem enc_some (x : Wr) : 0 < x.enc.length := by
  obtain ⟨k, n, s, l⟩ := x
  rw [enc_mk]; simp
set_option maxHeartbeats 2000000 in
theorem putwire_no (x : Wr) (L : Value) (w : World) (h : HL w 0 L x.l) (hm : x.may = false) :
    Calls Tryd.prog 15 #[.agg #[.int .i64 x.k, .int .i64 x.n, .string x.s, L]] w fun e w' => e = .returned (.string ⟨#[]⟩) ∧ w.grownBy w' none := by
  have hmay := maywire_any x
  rw [hm] at hmay
  have Hmay := Lib.hid hmay
  have HH := Lib.hid h
  obtain ⟨A, c, rfl⟩ := h.slice
  clear h hmay hm
  go_enter Tryd.func15, Tryd.ntmps15
  go_wp2_with fail
  refine (Hmay.out _ _ (HH.out.kept (gb_alloc (gb_refl _ _) _))).mono ?_
  rintro e w2 ⟨rfl, g2⟩
  go_wp2_with fail
  go_ret
  exact ⟨rfl, gb_none (gb_alloc (gb_refl _ _) _) g2⟩
set_option maxHeartbeats 4000000 in
theorem putwire_yes (x : Wr) (L : Value) (w : World) (h : HL w 0 L x.l) (hm : x.may = true) (hlen : x.enc.length ≤ 1099511627776) :
    Calls Tryd.prog 15 #[.agg #[.int .i64 x.k, .int .i64 x.n, .string x.s, L]] w fun e w' => e = .returned (.string ⟨x.enc.toArray⟩) ∧ w.grownBy w' none := by
  have hmay := maywire_any x
  have hput := dput_any x 6 hm
  have hpos := enc_some x
  rw [hm] at hmay
  have Hmay := Lib.hid hmay
  have Hput := Lib.hid hput
  have HH := Lib.hid h
  have Hlen := Lib.hid hlen
  have Hpos := Lib.hid hpos
  obtain ⟨A, c, rfl⟩ := h.slice
  clear h hmay hm hput hlen hpos
  go_enter Tryd.func15, Tryd.ntmps15
  go_wp2_with fail
  refine (Hmay.out _ _ (HH.out.kept (gb_alloc (gb_refl _ _) _))).mono ?_
  rintro e w2 ⟨rfl, g2⟩
  have g2w := gb_none (gb_alloc (gb_refl w none) _) g2
  have hbox : w2.heap[w.heap.size]? = some (.cells #[.int .i64 x.k, .int .i64 x.n, .string x.s, .slice A x.l.length c] 24 (0, 0)) := (g2.block _ (by simp) (by simp)).trans (heap_alloc_new _ _)
  obtain ⟨⟨b0, b1, b2, b3⟩, _, hbl⟩ := box4 hbox
  have Hg2w := Lib.hid g2w
  have Hnil : Hid (w2.ownsRow w2.heap.size 5 1 (.slice none 0 0) ([] : List UInt8).length (([] : List UInt8).map w8)) := World.ownsRow_nil w2 _ _ 1
  clear g2 g2w hbox
  go_wp2_with fail
  refine (Hput.out w2 _ (.slice none 0 0) [] w2 (HH.out.kept Hg2w.out) (gb_refl _ _) Hnil.out (by have := Hlen.out; simp; omega)).mono ?_
  rintro e w3 ⟨v3, rfl, hap⟩
  rw [List.nil_append] at hap
  have hconv := own_string hap.1 Hpos.out
  have Hold := Lib.hid (Ap.old (w0 := w2) Hnil.out (gb_refl _ _) hap)
  obtain ⟨uA, un, uc, rfl⟩ := hap.slice
  clear hap
  go_wp2_with fail
  go_ret
  exact ⟨rfl, gb_none Hg2w.out Hold.out⟩
theorem putwire_all (x : Wr) (L : Value) (w : World) (h : HL w 0 L x.l) (hlen : x.enc.length ≤ 1099511627776) :
    Calls Tryd.prog 15 #[.agg #[.int .i64 x.k, .int .i64 x.n, .string x.s, L]] w fun e w' => e = .returned (.string x.bytes) ∧ w.grownBy w' none := by
  unfold Wr.bytes
  cases hm : x.may with
  | true => rw [if_pos rfl]; exact putwire_yes x L w h hm hlen
  | false => rw [if_neg (by decide)]; exact putwire_no x L w h hm
end Go.Proofs.YtbammjhafgbfkaaDoor
