/- The document's at, goes; the laws' Op. -/
import Derived.Test.YtblndpfgfakdeaaFtLeaf
import Derived.Test.YtblndpfgfakdeaaFtMade
import Derived.Test.YtblndpfgfakdeaaZero
namespace Go.Proofs.Ytblndpfgfakdeaa.Dt
open Go Go.RowKit Go.Proofs.Ytblndpfgfakdeaa.Wd Go.Proofs.Ytblndpfgfakdeaa.Mm Go.Proofs.Ytblndpfgfakdeaa.Td Go.Proofs.Ytblndpfgfakdeaa.Zr

theorem atB_more {l : List Fc} {k : Nat} {x : Fc} (h : l[k]? = some x) (d n : Int) : atB (l.take (k + 1)) d n = (atB (l.take k) d n || decide (x.d = d ∧ x.n = n)) := by
  rw [ftake_more h]; unfold atB; rw [List.any_append]; simp
theorem atB_true {l : List Fc} {k : Nat} {x : Fc} (h : l[k]? = some x) {d n : Int} (hd : x.d = d) (hn : x.n = n) : atB l d n = true := (atB_iff l d n).2 ⟨x, List.mem_of_getElem? h, hd, hn⟩

set_option maxHeartbeats 8000000 in
set_option maxRecDepth 100000 in
theorem refAt_any (A B : Option Addr) (p c n e : Nat) (s : St) (d m : Int) (w : World) (hs : SL w A p B n s) (hn : n ≤ 1099511627776) :
    Calls Try.prog 63 #[.agg #[.slice A p c, .slice B n e], .agg #[.int .i64 d, .int .i64 m]] w fun r w' => r = .returned (.bool (atB s.facts d m)) ∧ w.grownBy w' none := by
  obtain ⟨rs, l⟩ := s
  obtain ⟨W0, hW0⟩ : ∃ W0, (w.alloc (.cells #[.slice A p c, .slice B n e] 26)).alloc (.cells #[.int .i64 d, .int .i64 m] 35) = W0 := ⟨_, rfl⟩
  have G0 : w.grownBy W0 none := by rw [← hW0]; exact gb_alloc (gb_alloc (gb_refl _ _) _) _
  have hr0 : Row W0 w.heap.size 26 #[.slice A p c, .slice B n e] := by rw [← hW0]; exact (Row.new _ _ _).alloc _
  have hr1 : Row W0 (w.heap.size + 1) 35 #[.int .i64 d, .int .i64 m] := by
    rw [← hW0]
    have h := Row.new (w.alloc (.cells #[.slice A p c, .slice B n e] 26)) 35 #[.int .i64 d, .int .i64 m]
    rwa [World.size_alloc] at h
  have HC : Hid (∀ W, W0.grownBy W none → W.cell? ⟨w.heap.size, 0, none⟩ = some (.slice A p c) ∧ W.cell? ⟨w.heap.size, 1, none⟩ = some (.slice B n e) ∧ W.cell? ⟨w.heap.size + 1, 0, none⟩ = some (.int .i64 d) ∧ W.cell? ⟨w.heap.size + 1, 1, none⟩ = some (.int .i64 m)) :=
    fun W hW => ⟨(hr0.kept hW (by simp)).at_ (i := 0) rfl, (hr0.kept hW (by simp)).at_ (i := 1) rfl, (hr1.kept hW (by simp)).at_ (i := 0) rfl, (hr1.kept hW (by simp)).at_ (i := 1) rfl⟩
  have Hl := Lib.hid (hs.keep G0).2
  have HG := Lib.hid G0
  clear hr0 hr1 hs G0
  go_enter Try.func63, Try.ntmps63
  go_upto_region 1 with fail
  clear hW0
  go_wp2_with fail
  go_loopw [5] (fun i wr => ∃ k : Nat, k ≤ n ∧ i = .int .i64 k ∧ Hid (atB (l.take k) d m = false) ∧ W0.grownBy wr none) (fun i _ => n - (intOf i).toNat)
  case atStart => exact ⟨0, Nat.zero_le _, rfl, by show _ = _; rfl, gb_refl _ _⟩
  case round =>
    obtain ⟨k, hk, rfl, HX, hg⟩ := hrel
    obtain ⟨y0, y1, y2, y3⟩ := HC.out wr hg
    by_cases hlt : k < n
    · have d1 : decide (k < n) = true := decide_eq_true hlt
      have d2 : decide ((k : Int) < (n : Int)) = true := decide_eq_true (by omega)
      have bk : (k : Int) < (n : Int) := by omega
      obtain ⟨g, o, rfl, hgl, hcc⟩ := (Hl.out.keep hg).2 (by omega)
      obtain ⟨x, hx⟩ : ∃ x, l[k]? = some x := ⟨_, List.getElem?_eq_getElem (by rw [Hl.out.1]; exact hlt)⟩
      obtain ⟨h0, h1, h2, h3, h4, h5⟩ := hcc k x hx
      have Hx := Lib.hid hx
      clear hcc hx h2 h3 h4 h5
      have hq := fun (W : World) => dotT_eql x.d x.n d m W
      have hG := dotT_guard
      by_cases e1 : x.d = d ∧ x.n = m
      · have q4 : eqD x.d x.n d m = true := (eqD_iff _ _ _ _).2 e1
        rw [q4] at hq
        have Hyes : Hid (atB l d m = true) := atB_true Hx.out e1.1 e1.2
        clear e1 q4
        go_wp2_with fail
        go_quiet (fail)
        go_wp2_with fail
        go_ret
        exact ⟨by rw [Hyes.out]; rfl, gb_drewN (gb_none HG.out hg) _⟩
      · have q4 : eqD x.d x.n d m = false := by rw [Bool.eq_false_iff, ne_eq, eqD_iff]; exact e1
        rw [q4] at hq
        have Hno : Hid (atB (l.take (k + 1)) d m = false) := by
          show _ = _
          rw [atB_more Hx.out, HX.out, decide_eq_false e1, Bool.or_false]
        clear e1 q4
        go_wp2_with fail
        go_quiet (fail)
        go_wp2_with fail
        go_roundw
        case rel => exact ⟨k + 1, by omega, by go_num, Hno, gb_drewN hg _⟩
        case measure => simp [intOf]; omega
    · have hkn : k = n := by omega
      subst hkn
      have d1 : decide (k < k) = false := by simp
      have d2 : decide ((k : Int) < (k : Int)) = false := by simp
      have He : Hid (atB l d m = false) := by
        show _ = _
        rw [← HX.out, List.take_of_length_le (by rw [Hl.out.1]; exact Nat.le_refl _)]
      have Hend := Lib.hid (gb_none HG.out hg)
      go_wp2_with fail
      go_ret
      exact ⟨by rw [He.out]; rfl, Hend.out⟩

set_option maxHeartbeats 8000000 in
set_option maxRecDepth 100000 in
theorem refGoes_any (x : Fc) (dev : Int) (o : Opn) (w : World) : Calls Try.prog 67 #[.agg #[.int .i64 x.d, .int .i64 x.n, .string x.key, .int .i64 x.kind, .string x.item, .int .i64 x.v], .int .i64 dev, .agg #[.int .i64 o.kind, .string o.key, .string o.item, .int .i64 o.v]] w fun e w' => e = .returned (.bool (goesB x dev o)) ∧ w.grownBy w' none := by
  by_cases hkey : x.key = o.key
  · have t1 := str_eq hkey
    by_cases k1 : o.kind = 1
    · have q1 : (o.kind == 1) = true := by rw [k1]; rfl
      by_cases f1 : x.kind = 1
      · have p1 : (x.kind == 1) = true := by rw [f1]; rfl
        have HE : Hid (goesB x dev o = true) := by exact decide_eq_true (by unfold Goes; exact ⟨hkey, .inl ⟨k1, f1⟩⟩)
        rw [HE.out]
        clear hkey k1 f1
        go_enter Try.func67, Try.ntmps67
        go_wp2_with fail
        go_ret
        exact ⟨rfl, gb_alloc (gb_alloc (gb_refl _ _) _) _⟩
      · have p1 : (x.kind == 1) = false := by rw [beq_eq_false_iff_ne]; exact f1
        have HE : Hid (goesB x dev o = false) := by exact decide_eq_false (by unfold Goes; intro h; omega)
        rw [HE.out]
        clear hkey k1 f1
        go_enter Try.func67, Try.ntmps67
        go_wp2_with fail
        go_ret
        exact ⟨rfl, gb_alloc (gb_alloc (gb_refl _ _) _) _⟩
    · have q1 : (o.kind == 1) = false := by rw [beq_eq_false_iff_ne]; exact k1
      by_cases k2 : o.kind = 2
      · have q2 : (o.kind == 2) = true := by rw [k2]; rfl
        by_cases f2 : x.kind = 2
        · have p2 : (x.kind == 2) = true := by rw [f2]; rfl
          by_cases hit : x.item = o.item
          · have t2 := str_eq hit
            have HE : Hid (goesB x dev o = true) := by exact decide_eq_true (by unfold Goes; exact ⟨hkey, .inr (.inl ⟨.inl k2, f2, hit⟩)⟩)
            rw [HE.out]
            clear hkey k1 k2 f2 hit
            go_enter Try.func67, Try.ntmps67
            go_wp2_with fail
            go_ret
            exact ⟨rfl, gb_alloc (gb_alloc (gb_refl _ _) _) _⟩
          · have t2 := str_ne hit
            have HE : Hid (goesB x dev o = false) := by exact decide_eq_false (by unfold Goes; exact fun h => hit (h.2.elim (fun h => by omega) fun h => h.elim (fun h => h.2.2) fun h => by omega))
            rw [HE.out]
            clear hkey k1 k2 f2 hit
            go_enter Try.func67, Try.ntmps67
            go_wp2_with fail
            go_ret
            exact ⟨rfl, gb_alloc (gb_alloc (gb_refl _ _) _) _⟩
        · have p2 : (x.kind == 2) = false := by rw [beq_eq_false_iff_ne]; exact f2
          have HE : Hid (goesB x dev o = false) := by exact decide_eq_false (by unfold Goes; intro h; omega)
          rw [HE.out]
          clear hkey k1 k2 f2
          go_enter Try.func67, Try.ntmps67
          go_wp2_with fail
          go_ret
          exact ⟨rfl, gb_alloc (gb_alloc (gb_refl _ _) _) _⟩
      · have q2 : (o.kind == 2) = false := by rw [beq_eq_false_iff_ne]; exact k2
        by_cases k3 : o.kind = 3
        · have q3 : (o.kind == 3) = true := by rw [k3]; rfl
          by_cases f2 : x.kind = 2
          · have p2 : (x.kind == 2) = true := by rw [f2]; rfl
            by_cases hit : x.item = o.item
            · have t2 := str_eq hit
              have HE : Hid (goesB x dev o = true) := by exact decide_eq_true (by unfold Goes; exact ⟨hkey, .inr (.inl ⟨.inr k3, f2, hit⟩)⟩)
              rw [HE.out]
              clear hkey k1 k2 k3 f2 hit
              go_enter Try.func67, Try.ntmps67
              go_wp2_with fail
              go_ret
              exact ⟨rfl, gb_alloc (gb_alloc (gb_refl _ _) _) _⟩
            · have t2 := str_ne hit
              have HE : Hid (goesB x dev o = false) := by exact decide_eq_false (by unfold Goes; exact fun h => hit (h.2.elim (fun h => by omega) fun h => h.elim (fun h => h.2.2) fun h => by omega))
              rw [HE.out]
              clear hkey k1 k2 k3 f2 hit
              go_enter Try.func67, Try.ntmps67
              go_wp2_with fail
              go_ret
              exact ⟨rfl, gb_alloc (gb_alloc (gb_refl _ _) _) _⟩
          · have p2 : (x.kind == 2) = false := by rw [beq_eq_false_iff_ne]; exact f2
            have HE : Hid (goesB x dev o = false) := by exact decide_eq_false (by unfold Goes; intro h; omega)
            rw [HE.out]
            clear hkey k1 k2 k3 f2
            go_enter Try.func67, Try.ntmps67
            go_wp2_with fail
            go_ret
            exact ⟨rfl, gb_alloc (gb_alloc (gb_refl _ _) _) _⟩
        · have q3 : (o.kind == 3) = false := by rw [beq_eq_false_iff_ne]; exact k3
          by_cases k4 : o.kind = 4
          · have q4 : (o.kind == 4) = true := by rw [k4]; rfl
            by_cases f3 : x.kind = 3
            · have p3 : (x.kind == 3) = true := by rw [f3]; rfl
              by_cases fd : x.d = dev
              · have p4 : (x.d == dev) = true := by rw [fd]; simp
                have HE : Hid (goesB x dev o = true) := by exact decide_eq_true (by unfold Goes; exact ⟨hkey, .inr (.inr (.inl ⟨k4, f3, fd⟩))⟩)
                rw [HE.out]
                clear hkey k1 k2 k3 k4 f3 fd
                go_enter Try.func67, Try.ntmps67
                go_wp2_with fail
                go_ret
                exact ⟨rfl, gb_alloc (gb_alloc (gb_refl _ _) _) _⟩
              · have p4 : (x.d == dev) = false := by rw [beq_eq_false_iff_ne]; exact fd
                have HE : Hid (goesB x dev o = false) := by exact decide_eq_false (by unfold Goes; intro h; omega)
                rw [HE.out]
                clear hkey k1 k2 k3 k4 f3 fd
                go_enter Try.func67, Try.ntmps67
                go_wp2_with fail
                go_ret
                exact ⟨rfl, gb_alloc (gb_alloc (gb_refl _ _) _) _⟩
            · have p3 : (x.kind == 3) = false := by rw [beq_eq_false_iff_ne]; exact f3
              have HE : Hid (goesB x dev o = false) := by exact decide_eq_false (by unfold Goes; intro h; omega)
              rw [HE.out]
              clear hkey k1 k2 k3 k4 f3
              go_enter Try.func67, Try.ntmps67
              go_wp2_with fail
              go_ret
              exact ⟨rfl, gb_alloc (gb_alloc (gb_refl _ _) _) _⟩
          · have q4 : (o.kind == 4) = false := by rw [beq_eq_false_iff_ne]; exact k4
            have HE : Hid (goesB x dev o = true) := by exact decide_eq_true (by unfold Goes; exact ⟨hkey, .inr (.inr (.inr ⟨k1, k2, k3, k4⟩))⟩)
            rw [HE.out]
            clear hkey k1 k2 k3 k4
            go_enter Try.func67, Try.ntmps67
            go_wp2_with fail
            go_ret
            exact ⟨rfl, gb_alloc (gb_alloc (gb_refl _ _) _) _⟩
  · have t1 := str_ne hkey
    have HE : Hid (goesB x dev o = false) := by exact decide_eq_false (by unfold Goes; intro h; exact hkey h.1)
    rw [HE.out]
    clear hkey
    go_enter Try.func67, Try.ntmps67
    go_wp2_with fail
    go_ret
    exact ⟨rfl, gb_alloc (gb_alloc (gb_refl _ _) _) _⟩

theorem text_b1 {g : Nat} {x : Int} {W : World} (h0 : 0 ≤ x) (h1 : x < 256) (h : Row W g 5 #[.int .u8 x]) : (convert 22 9 (.slice (some ⟨g, 0, none⟩) 1 1)).run Try.prog W = .ok (.string (b1 x)) W := by
  have hx : (UInt8.ofNat x.toNat).toNat = x.toNat := by rw [UInt8.toNat_ofNat']; omega
  have e : w8 (UInt8.ofNat x.toNat) = .int .u8 x := by
    unfold w8; rw [hx, Int.toNat_of_nonneg h0]
  exact row_string (l := [UInt8.ofNat x.toNat]) (by show Row W g _ #[w8 (UInt8.ofNat x.toNat)]; rw [e]; exact h) 1
set_option maxHeartbeats 8000000 in
set_option maxRecDepth 100000 in
theorem op_any (a b : Int) (w : World) (a0 : 0 ≤ a) (a1 : a ≤ 255) (b0 : 0 ≤ b) (b1' : b ≤ 255) : Calls Try.prog 47 #[.int .u8 a, .int .u8 b] w fun e w' => e = .returned (.agg #[.int .i64 (opN a b).kind, .string (opN a b).key, .string (opN a b).item, .int .i64 (opN a b).v]) ∧ w.grownBy w' none := by
  show Calls _ _ _ _ fun e w' => e = .returned (.agg #[.int .i64 (1 + a % 5), .string (b1 (107 + a / 5 % 3)), .string (b1 (97 + b % 5)), .int .i64 (b - 100)]) ∧ w.grownBy w' none
  obtain ⟨ka, hka⟩ : ∃ ka, 1 + a % 5 = ka := ⟨_, rfl⟩
  obtain ⟨ra, hra⟩ : ∃ ra, a % 5 = ra := ⟨_, rfl⟩
  obtain ⟨qa, hqa⟩ : ∃ qa, a / 5 = qa := ⟨_, rfl⟩
  obtain ⟨ta, hta⟩ : ∃ ta, a / 5 % 3 = ta := ⟨_, rfl⟩
  obtain ⟨X, hX⟩ : ∃ X, 107 + a / 5 % 3 = X := ⟨_, rfl⟩
  obtain ⟨rb, hrb⟩ : ∃ rb, b % 5 = rb := ⟨_, rfl⟩
  obtain ⟨Y, hY⟩ : ∃ Y, 97 + b % 5 = Y := ⟨_, rfl⟩
  obtain ⟨vb, hvb⟩ : ∃ vb, b - 100 = vb := ⟨_, rfl⟩
  rw [hka, hX, hY, hvb]
  have w1 : IntKind.i64.wrap a = a := by rw [IntKind.wrap_i64]; omega
  have w2 : a.tmod 5 = ra := by rw [Int.tmod_eq_emod_of_nonneg a0, hra]
  have w3 : IntKind.i64.wrap (1 + ra) = ka := by rw [IntKind.wrap_i64]; omega
  have w4 : a.tdiv 5 = qa := by rw [Int.tdiv_eq_ediv_of_nonneg a0, hqa]
  have w5 : qa.tmod 3 = ta := by rw [Int.tmod_eq_emod_of_nonneg (by omega), ← hqa, hta]
  have w6 : IntKind.u8.wrap (107 + ta) = X := by rw [IntKind.wrap_u8']; omega
  have w7 : b.tmod 5 = rb := by rw [Int.tmod_eq_emod_of_nonneg b0, hrb]
  have w8 : IntKind.u8.wrap (97 + rb) = Y := by rw [IntKind.wrap_u8']; omega
  have w9 : IntKind.i64.wrap b = b := by rw [IntKind.wrap_i64]; omega
  have wa : IntKind.i64.wrap (b - 100) = vb := by rw [IntKind.wrap_i64]; omega
  have wb : IntKind.u8.wrap qa = qa := by rw [IntKind.wrap_u8']; omega
  have wc : IntKind.u8.wrap ta = ta := by rw [IntKind.wrap_u8']; omega
  have wd : IntKind.u8.wrap rb = rb := by rw [IntKind.wrap_u8']; omega
  have we : IntKind.i64.wrap ra = ra := by rw [IntKind.wrap_i64]; omega
  have hc1 := text_b1 (x := X) (by omega) (by omega) (Row.new (w.alloc (.cells #[.int .i64 0, .string ⟨#[]⟩, .string ⟨#[]⟩, .int .i64 0] 66)) 5 #[.int .u8 X])
  have hc2 := text_b1 (x := Y) (by omega) (by omega) (Row.new ((w.alloc (.cells #[.int .i64 0, .string ⟨#[]⟩, .string ⟨#[]⟩, .int .i64 0] 66)).alloc (.cells #[.int .u8 X] 5)) 5 #[.int .u8 Y])
  rw [World.size_alloc] at hc1
  rw [World.size_alloc, World.size_alloc] at hc2
  clear hka hra hqa hta hX hrb hY hvb a0 a1 b0 b1'
  go_enter Try.func47, Try.ntmps47
  go_wp2_with fail
  exact bodyPost_ret (results_cell_row rfl _ _ w.heap.size 66 _ (0, 0) _ rfl (((Row.new w _ _).alloc _).alloc _) Try.underlying66 rfl (by kernel_rfl)) rfl ⟨rfl, gb_alloc (gb_alloc (gb_alloc (gb_refl _ _) _) _) _⟩
end Go.Proofs.Ytblndpfgfakdeaa.Dt
