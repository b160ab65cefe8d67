/- box.checkSizes and box.reason. -/
import Derived.Test.YthdealjnhgkoiaaDoorBxErr
namespace Go.Proofs.YthdealjnhgkoiaaDoor.Bx
open Go.RowKit Wd Mm

/-- A refusal, for whatever part, as an error. -/
def refV (p : ByteArray) (n : Int) (a : Addr) : Value := .iface 49 (.agg #[.string p, .int .i64 n, .iface 113 (.pointer (some a))])
/-- An error that is told to be one. -/
def ErrIs (w : World) (v : Value) : Prop := ∃ (p : ByteArray) (n : Int) (a : Addr) (c : Array Value) (t : TypeId), v = refV p n a ∧ w.heap[a.block]? = some (.cells c t (0, 0))
theorem ErrIs.keep {w w' : World} {v : Value} (h : ErrIs w v) (hg : w.grownBy w' none) : ErrIs w' v := by
  obtain ⟨p, n, a, c, t, hv, hb⟩ := h
  exact ⟨p, n, a, c, t, hv, (hg.block _ (Array.getElem?_eq_some_iff.1 hb).1 (by simp)).trans hb⟩

set_option maxHeartbeats 1000000 in
theorem check_ok (key nonce : ByteArray) (w : World) (hk : key.size = 64) (hn : nonce.size = 12) : Calls Tryd.prog 19 #[.string key, .string nonce] w fun e w' => e = .returned .nilIface ∧ w = w' := by
  have t1 : ((key.size : Int) == 64) = true := by rw [hk]; rfl
  have t2 : ((nonce.size : Int) == 12) = true := by rw [hn]; rfl
  clear hk hn
  go_enter Tryd.func19, Tryd.ntmps19
  go_wp2_with fail
  go_ret
  exact ⟨rfl, rfl⟩
set_option maxHeartbeats 1000000 in
theorem check_key (key nonce : ByteArray) (w : World) (hk : key.size ≠ 64) (hE : BErrs w) : Calls Tryd.prog 19 #[.string key, .string nonce] w fun e w' => ∃ p n a c t, e = .returned (refV p n a) ∧ w'.heap[a.block]? = some (.cells c t (0, 0)) ∧ w = w' := by
  have t1 : ((key.size : Int) == 64) = false := by rw [beq_eq_false_iff_ne]; omega
  obtain ⟨a, c, t, k, hb⟩ := hE.1
  have Hb := Lib.hid hb
  clear hk hE hb
  go_enter Tryd.func19, Tryd.ntmps19
  go_wp2_with fail
  go_ret
  exact ⟨_, _, a, c, t, rfl, Hb.out, rfl⟩
set_option maxHeartbeats 1000000 in
theorem check_nonce (key nonce : ByteArray) (w : World) (hk : key.size = 64) (hn : nonce.size ≠ 12) (hE : BErrs w) : Calls Tryd.prog 19 #[.string key, .string nonce] w fun e w' => ∃ p n a c t, e = .returned (refV p n a) ∧ w'.heap[a.block]? = some (.cells c t (0, 0)) ∧ w = w' := by
  have t1 : ((key.size : Int) == 64) = true := by rw [hk]; rfl
  have t2 : ((nonce.size : Int) == 12) = false := by rw [beq_eq_false_iff_ne]; omega
  obtain ⟨a, c, t, k, hb⟩ := hE.2.1
  have Hb := Lib.hid hb
  clear hk hn hE hb
  go_enter Tryd.func19, Tryd.ntmps19
  go_wp2_with fail
  go_ret
  exact ⟨_, _, a, c, t, rfl, Hb.out, rfl⟩
theorem check_no (key nonce : ByteArray) (w : World) (h : ¬ (key.size = 64 ∧ nonce.size = 12)) (hE : BErrs w) : Calls Tryd.prog 19 #[.string key, .string nonce] w fun e w' => ∃ p n a c t, e = .returned (refV p n a) ∧ w'.heap[a.block]? = some (.cells c t (0, 0)) ∧ w = w' := by
  by_cases hk : key.size = 64
  · exact check_nonce key nonce w hk (fun hn => h ⟨hk, hn⟩) hE
  · exact check_key key nonce w hk hE

set_option maxHeartbeats 1000000 in
theorem reason_nil (w : World) (hE : BErrs w) : Calls Tryd.prog 17 #[.nilIface] w fun e w' => e = .returned .nilIface ∧ w = w' := by
  obtain ⟨⟨a0, _, _, k0, _⟩, ⟨a1, _, _, k1, _⟩, ⟨a2, _, _, k2, _⟩, ⟨a3, _, _, k3, _⟩, ⟨a4, _, _, k4, _⟩⟩ := hE
  go_enter Tryd.func17, Tryd.ntmps17
  go_wp2_with fail
  refine (is_nil a0 _).mono ?_
  rintro e w1 ⟨rfl, rfl⟩
  go_wp2_with fail
  refine (is_nil a1 _).mono ?_
  rintro e w1 ⟨rfl, rfl⟩
  go_wp2_with fail
  refine (is_nil a2 _).mono ?_
  rintro e w1 ⟨rfl, rfl⟩
  go_wp2_with fail
  refine (is_nil a3 _).mono ?_
  rintro e w1 ⟨rfl, rfl⟩
  go_wp2_with fail
  refine (is_nil a4 _).mono ?_
  rintro e w1 ⟨rfl, rfl⟩
  go_wp2_with fail
  go_ret
  exact ⟨rfl, rfl⟩

/-- What errors.Is says of a refusal, whatever it is held against. -/
theorem is_any (p : ByteArray) (n : Int) (a b : Addr) (ca cb : Array Value) (ta tb : TypeId) (w : World) (ha : w.heap[a.block]? = some (.cells ca ta (0, 0))) (hb : w.heap[b.block]? = some (.cells cb tb (0, 0))) :
    Calls Tryd.prog 24 #[refV p n a, .iface 113 (.pointer (some b))] w fun e w' => (∃ q, e = .returned (.bool q)) ∧ w.grownBy w' none := by
  by_cases h : a = b
  · exact (is_ref p n a b ca cb ta tb w ha hb true (.inl ⟨rfl, h⟩)).mono (fun e w' h => ⟨⟨_, h.1⟩, h.2⟩)
  · exact (is_ref p n a b ca cb ta tb w ha hb false (.inr ⟨rfl, h⟩)).mono (fun e w' h => ⟨⟨_, h.1⟩, h.2⟩)

set_option maxHeartbeats 4000000 in
theorem reason_some (p : ByteArray) (n : Int) (a : Addr) (c : Array Value) (t : TypeId) (w : World) (ha : w.heap[a.block]? = some (.cells c t (0, 0))) (hE : BErrs w) :
    Calls Tryd.prog 17 #[refV p n a] w fun e w' => ∃ t v, e = .returned (.iface t v) ∧ w.grownBy w' none := by
  have step : ∀ (W : World) (b : Addr) (cb : Array Value) (tb : TypeId), w.grownBy W none → W.heap[b.block]? = some (.cells cb tb (0, 0)) → Hid (Calls Tryd.prog 24 #[refV p n a, .iface 113 (.pointer (some b))] W fun e w' => (∃ q, e = .returned (.bool q)) ∧ w.grownBy w' none) := fun W b cb tb hg hb =>
    (is_any p n a b c cb t tb W ((hg.block _ (Array.getElem?_eq_some_iff.1 ha).1 (by simp)).trans ha) hb).mono (fun e w' h => ⟨h.1, gb_none hg h.2⟩)
  have HE := Lib.hid hE
  have hr : ∃ v, refV p n a = .iface 49 v := ⟨_, rfl⟩
  clear ha hE
  obtain ⟨V, hV⟩ := hr
  rw [hV] at step ⊢
  clear hV
  obtain ⟨a0, c0, t0, k0, h0⟩ := HE.out.1
  have S0 := step w a0 c0 t0 (gb_refl _ _) h0
  clear h0
  go_enter Tryd.func17, Tryd.ntmps17
  go_wp2_with fail
  refine S0.out.mono ?_
  rintro e w1 ⟨⟨q, rfl⟩, g1⟩
  clear S0 k0
  obtain ⟨b0, _, _, k0, _⟩ := (HE.out.keep g1).1
  obtain ⟨a1, c1, t1, k1, h1⟩ := (HE.out.keep g1).2.1
  have S1 := step w1 a1 c1 t1 g1 h1
  clear h1
  cases q with
  | true =>
    go_wp2_with fail
    go_ret
    exact ⟨_, _, rfl, g1⟩
  | false =>
    go_wp2_with fail
    refine S1.out.mono ?_
    rintro e w2 ⟨⟨q, rfl⟩, g2⟩
    clear S1 k0 k1
    obtain ⟨b1, _, _, k1, _⟩ := (HE.out.keep g2).2.1
    obtain ⟨a2, c2, t2, k2, h2⟩ := (HE.out.keep g2).2.2.1
    have S2 := step w2 a2 c2 t2 g2 h2
    clear h2
    cases q with
    | true =>
      go_wp2_with fail
      go_ret
      exact ⟨_, _, rfl, g2⟩
    | false =>
      go_wp2_with fail
      refine S2.out.mono ?_
      rintro e w3 ⟨⟨q, rfl⟩, g3⟩
      clear S2 k1 k2
      obtain ⟨b2, _, _, k2, _⟩ := (HE.out.keep g3).2.2.1
      obtain ⟨a3, c3, t3, k3, h3⟩ := (HE.out.keep g3).2.2.2.1
      have S3 := step w3 a3 c3 t3 g3 h3
      clear h3
      cases q with
      | true =>
        go_wp2_with fail
        go_ret
        exact ⟨_, _, rfl, g3⟩
      | false =>
        go_wp2_with fail
        refine S3.out.mono ?_
        rintro e w4 ⟨⟨q, rfl⟩, g4⟩
        clear S3 k2 k3
        obtain ⟨b3, _, _, k3, _⟩ := (HE.out.keep g4).2.2.2.1
        obtain ⟨a4, c4, t4, k4, h4⟩ := (HE.out.keep g4).2.2.2.2
        have S4 := step w4 a4 c4 t4 g4 h4
        clear h4
        cases q with
        | true =>
          go_wp2_with fail
          go_ret
          exact ⟨_, _, rfl, g4⟩
        | false =>
          go_wp2_with fail
          refine S4.out.mono ?_
          rintro e w5 ⟨⟨q, rfl⟩, g5⟩
          clear S4 k3 k4
          obtain ⟨b4, _, _, k4, _⟩ := (HE.out.keep g5).2.2.2.2
          cases q with
          | true =>
            go_wp2_with fail
            go_ret
            exact ⟨_, _, rfl, g5⟩
          | false =>
            go_wp2_with fail
            go_ret
            exact ⟨_, _, rfl, g5⟩
end Go.Proofs.YthdealjnhgkoiaaDoor.Bx
