/- The document's Do. -/
import Derived.Test.YthijiefopcnclaaGreatDoorFtBuild
import Derived.Test.YthijiefopcnclaaGreatDoorFtJoinW
import Derived.Test.YthijiefopcnclaaGreatDoorFtC
import Derived.Test.YthijiefopcnclaaGreatDoorDtC
import Derived.Test.YthijiefopcnclaaGreatDoorDtB
import Derived.Test.YthijiefopcnclaaGreatDoorTdA
namespace Go.Proofs.YthijiefopcnclaaGreatDoor.Dt
open Go Go.RowKit Go.Proofs.YthijiefopcnclaaGreatDoor.Mm Go.Proofs.YthijiefopcnclaaGreatDoor.Td

/-- What a deed tells. -/
def DoneIs (s : St) (dev : Int) (o : Opn) (w : World) (e : Ending) (w' : World) : Prop := ∃ A n c B m d, e = .returned (.agg #[.slice A n c, .slice B m d, .int .i64 (doS s dev o).2]) ∧ SL w' A n B m (doS s dev o).1 ∧ n ≤ c ∧ m ≤ d ∧ w.grownBy w' none
theorem own_slice2 {w : World} {B n : Nat} {t : TypeId} {v : Value} {xs : List Value} (h : w.ownsRow B t 2 v n xs) : ∃ A c, v = .slice A n c := by
  rcases h.2 with ⟨rfl, h0⟩ | ⟨g, cap, cur, rfl, _⟩
  · exact ⟨none, 0, by rw [h0]⟩
  · exact ⟨_, cap, rfl⟩
theorem own_far2 {w : World} {B : Nat} {e : TypeId} {v : Value} {n : Nat} {xs : List Value} (h : w.ownsRow B e 2 v n xs) : ∀ i, v.ownBlock = some i → B ≤ i := fun i hi => by
  rcases h.2 with ⟨rfl, _⟩ | ⟨g, cap, cur, rfl, hB, _⟩
  · simp [Value.ownBlock] at hi
  · simp [Value.ownBlock] at hi; omega
/-- Blocks between two numbers are as they were. -/
def Kp (lo hi : Nat) (w w' : World) : Prop := ∀ g, lo < g → g < hi → w'.heap[g]? = w.heap[g]?
theorem Kp.trans {lo hi : Nat} {a b c : World} (h : Kp lo hi a b) (k : Kp lo hi b c) : Kp lo hi a c := fun g h1 h2 => (k g h1 h2).trans (h g h1 h2)
theorem Kp.of {lo hi : Nat} {w w' : World} {r : Option Nat} (h : w.grownBy w' r) (hr : ∀ i, r = some i → i ≤ lo) (hh : hi ≤ w.heap.size) : Kp lo hi w w' := fun g h1 h2 => h.block g (by omega) (fun e => by have := hr g e.symm; omega)
theorem size_set1 (w : World) (a : Addr) (v : Value) : (w.setCell a v).heap.size = w.heap.size := by simp [World.setCell]
theorem rl_beside3 {w w' : World} {A : Option Addr} {n h : Nat} {l : List Rn} {t : TypeId} {A1 A2 : Option Addr} {n1 c1 n2 c2 : Nat} {v : Value} (hr : RL w A n l) (hg : w.grownBy w' (some h)) (hrow : Row w h t #[.slice A1 n1 c1, .slice A2 n2 c2, v]) : RL w' A n l := by
  refine ⟨hr.1, fun h0 => ?_⟩
  obtain ⟨g, o, e, hl, hc⟩ := hr.2 h0
  obtain ⟨x, hx⟩ : ∃ x, l[0]? = some x := ⟨_, List.getElem?_eq_getElem (by rw [hr.1]; exact h0)⟩
  have hne : some g ≠ some h := by
    intro e2
    obtain rfl := Option.some.inj e2
    have h1 := (hc 0 x hx).1
    have h2 := (hc 0 x hx).2.1
    rw [hrow.get] at h1 h2
    obtain ⟨j, hj⟩ : ∃ j, j = o + 0 * 3 := ⟨_, rfl⟩
    rw [← hj] at h1 h2
    match j, h1, h2 with
    | 0, h1, _ => simp at h1
    | 1, h1, _ => simp at h1
    | j + 2, _, h2 => simp at h2
  refine ⟨g, o, e, Nat.lt_of_lt_of_le hl hg.size, fun i y hy => ?_⟩
  have hb := hg.block g hl hne
  obtain ⟨c0, c1, c2⟩ := hc i y hy
  exact ⟨(World.cell?_of_block (a := ⟨g, o + i * 3, none⟩) hb).trans c0, (World.cell?_of_block (a := ⟨g, o + i * 3 + 1, none⟩) hb).trans c1, (World.cell?_of_block (a := ⟨g, o + i * 3 + 2, none⟩) hb).trans c2⟩
theorem fl_row {w : World} {g : Nat} {x : Fc} (h : Row w g 46 #[.int .i64 x.d, .int .i64 x.n, .string x.key, .int .i64 x.kind, .string x.item, .int .i64 x.v]) : FL w (some ⟨g, 0, none⟩) 1 [x] := by
  refine ⟨rfl, fun _ => ⟨g, 0, rfl, h.lt, fun i y hy => ?_⟩⟩
  have hi : i = 0 := by have := (List.getElem?_eq_some_iff.1 hy).1; simp at this; omega
  subst hi
  obtain rfl : x = y := by simpa using hy
  exact ⟨h.at_ (i := 0) rfl, h.at_ (i := 1) rfl, h.at_ (i := 2) rfl, h.at_ (i := 3) rfl, h.at_ (i := 4) rfl, h.at_ (i := 5) rfl⟩
theorem own_dl' {w : World} {B n c : Nat} {t : TypeId} {A : Option Addr} {l : List (Int × Int)} (h : w.ownsRow B t 2 (.slice A n c) n (dv l)) (hn : l.length = n) : DL w A n l := by
  obtain ⟨A', c', e, hf, _⟩ := own_dl h hn
  cases e
  exact hf
theorem own_ne {w : World} {B n g : Nat} {e t : TypeId} {v : Value} {xs : List Value} {cs : Array Value} {size : Nat} (h : w.ownsRow B e size v n xs) (hr : Row w g t cs) (hne : e ≠ t) : v.ownBlock ≠ some g := by
  rcases h.2 with ⟨rfl, _⟩ | ⟨b, cap, cur, rfl, _, hb, _⟩
  · simp [Value.ownBlock]
  · intro e2
    have e3 : b = g := by simpa [Value.ownBlock] using e2
    subst e3
    unfold Row at hr
    rw [hb] at hr
    simp only [Option.some.injEq, Obj.cells.injEq] at hr
    exact hne hr.2.1
def newB (N : Nat) (t : TypeId) (cs : Array Value) : Td.Spec := fun W v => ∃ g, v = .pointer (some ⟨g, 0, none⟩) ∧ N ≤ g ∧ Row W g t cs
theorem newB_stays {N : Nat} {t : TypeId} {cs : Array Value} : Stays (fun a b => a.grownBy b none) (newB N t cs) := fun _ _ _ h ⟨g, e, hn, hr⟩ => ⟨g, e, hn, hr.kept h (by simp)⟩
attribute [local go_sem] Td.upon_value Td.upon_skip Td.upon_enter Td.upon_row Td.look_tmp Td.look_const Td.look_func Td.look_global
set_option maxHeartbeats 80000000 in
set_option maxRecDepth 100000 in
theorem refDo_any (A B : Option Addr) (p c n d : Nat) (s : St) (dev : Int) (o : Opn) (w : World) (hs : SL w A p B n s) (ms : MayS s) (hp : p ≤ 10000) (hov : IntKind.i64.wrap o.v = o.v) :
    Calls Tryz.prog 36 #[.agg #[.slice A p c, .slice B n d], .int .i64 dev, .agg #[.int .i64 o.kind, .string o.key, .string o.item, .int .i64 o.v]] w (DoneIs s dev o w) := by
  have hn : n ≤ 400 := by rw [← hs.2.1]; exact ms.2.1
  obtain ⟨rs, l⟩ := s
  obtain ⟨W0, hW0⟩ : ∃ W0, ((w.alloc (.cells #[.slice A p c, .slice B n d] 25)).alloc (.cells #[.int .i64 o.kind, .string o.key, .string o.item, .int .i64 o.v] 83)).alloc (.cells #[.slice none 0 0, .slice none 0 0, .int .i64 0] 80) = W0 := ⟨_, rfl⟩
  obtain ⟨h0, hh0⟩ : ∃ h0, w.heap.size = h0 := ⟨_, rfl⟩
  have G0 : w.grownBy W0 none := by rw [← hW0]; exact gb_alloc (gb_alloc (gb_alloc (gb_refl _ _) _) _) _
  have hr0 : Row W0 h0 25 #[.slice A p c, .slice B n d] := by rw [← hW0, ← hh0]; exact ((Row.new _ _ _).alloc _).alloc _
  have hr1 : Row W0 (h0 + 1) 83 #[.int .i64 o.kind, .string o.key, .string o.item, .int .i64 o.v] := by
    rw [← hW0, ← hh0]
    have h := Row.new (w.alloc (.cells #[.slice A p c, .slice B n d] 25)) 83 #[.int .i64 o.kind, .string o.key, .string o.item, .int .i64 o.v]
    rw [World.size_alloc] at h
    exact h.alloc _
  have hr2 : Row W0 (h0 + 1 + 1) 80 #[.slice none 0 0, .slice none 0 0, .int .i64 0] := by
    rw [← hW0, ← hh0]
    have h := Row.new ((w.alloc (.cells #[.slice A p c, .slice B n d] 25)).alloc (.cells #[.int .i64 o.kind, .string o.key, .string o.item, .int .i64 o.v] 83)) 80 #[.slice none 0 0, .slice none 0 0, .int .i64 0]
    rwa [World.size_alloc, World.size_alloc] at h
  have HC : Hid (∀ W, W0.grownBy W none → W.cell? ⟨h0, 0, none⟩ = some (.slice A p c) ∧ W.cell? ⟨h0, 1, none⟩ = some (.slice B n d) ∧ W.cell? ⟨h0 + 1, 0, none⟩ = some (.int .i64 o.kind) ∧ W.cell? ⟨h0 + 1, 1, none⟩ = some (.string o.key) ∧ W.cell? ⟨h0 + 1, 2, none⟩ = some (.string o.item) ∧ W.cell? ⟨h0 + 1, 3, none⟩ = some (.int .i64 o.v)) :=
    fun W hW => ⟨(hr0.kept hW (by simp)).at_ (i := 0) rfl, (hr0.kept hW (by simp)).at_ (i := 1) rfl, (hr1.kept hW (by simp)).at_ (i := 0) rfl, (hr1.kept hW (by simp)).at_ (i := 1) rfl, (hr1.kept hW (by simp)).at_ (i := 2) rfl, (hr1.kept hW (by simp)).at_ (i := 3) rfl⟩
  have HR := Lib.hid hr2
  have Hs := Lib.hid (hs.keep G0)
  have Hl := Lib.hid (hs.keep G0).2
  have HG := Lib.hid G0
  have HMS := Lib.hid ms
  have Hh0 := Lib.hid hh0
  have Hov := Lib.hid hov
  obtain ⟨B0, hB0⟩ : ∃ B0, W0.heap.size = B0 := ⟨_, rfl⟩
  have HB0 := Lib.hid hB0
  have Hnil : Hid (W0.ownsRow B0 44 2 (.slice none 0 0) 0 (dv (dotsF []))) := World.ownsRow_nil _ _ _ _
  have HGr : Hid (W0.grownBy W0 none) := gb_refl _ _
  obtain ⟨i0, hi0, hz0, hz1, hz2⟩ := info_parts dot_inf
  have Hi0 := Lib.hid hi0
  have Hz0 := Lib.hid hz0
  have Hz1 := Lib.hid hz1
  have Hz2i := Lib.hid hz2
  obtain ⟨itb, hit⟩ : ∃ itb, decide (o.kind = 1 ∨ o.kind = 2 ∨ o.kind = 3) = itb := ⟨_, rfl⟩
  have Hit := Lib.hid hit
  obtain ⟨bad, hbad⟩ : ∃ bad, decide (Bad dev o) = bad := ⟨_, rfl⟩
  have Hbad := Lib.hid hbad
  obtain ⟨z0, z1, z2, z3, z4, z5⟩ := HC.out W0 (gb_refl _ _)
  clear hr0 hr1 hr2 hs ms G0 hi0 hz0 hz1 hz2 hB0 hov hit hbad
  go_enter Tryz.func36, Tryz.ntmps36
  go_upto_region 1 with fail
  clear hW0 hh0
  go_cut [7] (fun v wx => v = .bool itb ∧ W0 = wx)
  case first =>
    as_aux_lemma =>
    by_cases k1 : o.kind = 1
    · have q1 : (o.kind == 1) = true := by rw [k1]; rfl
      obtain rfl : itb = true := by rw [← Hit.out]; exact decide_eq_true (by omega)
      try clear k3
      try clear k2
      try clear k1
      go_wp2_with fail
      go_meet
      exact ⟨rfl, rfl⟩
    · have q1 : (o.kind == 1) = false := by rw [beq_eq_false_iff_ne]; exact k1
      by_cases k2 : o.kind = 2
      · have q2 : (o.kind == 2) = true := by rw [k2]; rfl
        obtain rfl : itb = true := by rw [← Hit.out]; exact decide_eq_true (by omega)
        try clear k3
        try clear k2
        try clear k1
        go_wp2_with fail
        go_meet
        exact ⟨rfl, rfl⟩
      · have q2 : (o.kind == 2) = false := by rw [beq_eq_false_iff_ne]; exact k2
        by_cases k3 : o.kind = 3
        · have q3 : (o.kind == 3) = true := by rw [k3]; rfl
          obtain rfl : itb = true := by rw [← Hit.out]; exact decide_eq_true (by omega)
          try clear k3
          try clear k2
          try clear k1
          go_wp2_with fail
          go_meet
          exact ⟨rfl, rfl⟩
        · have q3 : (o.kind == 3) = false := by rw [beq_eq_false_iff_ne]; exact k3
          obtain rfl : itb = false := by rw [← Hit.out]; exact decide_eq_false (by omega)
          try clear k3
          try clear k2
          try clear k1
          go_wp2_with fail
          go_meet
          exact ⟨rfl, rfl⟩
  case rest =>
  obtain ⟨rfl, rfl⟩ := hcut
  go_upto_region 2 with fail
  go_cut [71] (fun v wx => v = .bool bad ∧ W0 = wx)
  case first =>
    as_aux_lemma =>
    by_cases ca : dev < 0
    · have ca0 : decide (dev < 0) = true := decide_eq_true (by omega)
      obtain rfl : bad = true := by rw [← Hbad.out]; exact decide_eq_true (by unfold Bad; omega)
      try clear k4
      try clear ki
      go_wp2_with fail
      go_meet
      exact ⟨rfl, rfl⟩
    · have ca0 : decide (dev < 0) = false := decide_eq_false (by omega)
      by_cases cb : 8 ≤ dev
      · have cb0 : decide (8 ≤ dev) = true := decide_eq_true (by omega)
        obtain rfl : bad = true := by rw [← Hbad.out]; exact decide_eq_true (by unfold Bad; omega)
        try clear k4
        try clear ki
        go_wp2_with fail
        go_meet
        exact ⟨rfl, rfl⟩
      · have cb0 : decide (8 ≤ dev) = false := decide_eq_false (by omega)
        by_cases cc : o.kind < 1
        · have cc0 : decide (o.kind < 1) = true := decide_eq_true (by omega)
          obtain rfl : bad = true := by rw [← Hbad.out]; exact decide_eq_true (by unfold Bad; omega)
          try clear k4
          try clear ki
          go_wp2_with fail
          go_meet
          exact ⟨rfl, rfl⟩
        · have cc0 : decide (o.kind < 1) = false := decide_eq_false (by omega)
          by_cases cd : 5 < o.kind
          · have cd0 : decide (5 < o.kind) = true := decide_eq_true (by omega)
            obtain rfl : bad = true := by rw [← Hbad.out]; exact decide_eq_true (by unfold Bad; omega)
            try clear k4
            try clear ki
            go_wp2_with fail
            go_meet
            exact ⟨rfl, rfl⟩
          · have cd0 : decide (5 < o.kind) = false := decide_eq_false (by omega)
            by_cases ce : 40 < o.key.size
            · have ce0 : decide (40 < o.key.size) = true := decide_eq_true (by omega)
              have ce1 : decide ((40 : Int) < (o.key.size : Int)) = true := decide_eq_true (by omega)
              obtain rfl : bad = true := by rw [← Hbad.out]; exact decide_eq_true (by unfold Bad; omega)
              try clear k4
              try clear ki
              go_wp2_with fail
              go_meet
              exact ⟨rfl, rfl⟩
            · have ce0 : decide (40 < o.key.size) = false := decide_eq_false (by omega)
              have ce1 : decide ((40 : Int) < (o.key.size : Int)) = false := decide_eq_false (by omega)
              by_cases ki : o.kind = 1 ∨ o.kind = 2 ∨ o.kind = 3
              · obtain rfl : itb = true := by rw [← Hit.out]; exact decide_eq_true ki
                have q4 : (o.kind == 4) = false := by rw [beq_eq_false_iff_ne]; omega
                by_cases cf : 200 < o.item.size
                · have cf0 : decide (200 < o.item.size) = true := decide_eq_true (by omega)
                  have cf1 : decide ((200 : Int) < (o.item.size : Int)) = true := decide_eq_true (by omega)
                  obtain rfl : bad = true := by rw [← Hbad.out]; exact decide_eq_true (by unfold Bad; omega)
                  try clear k4
                  try clear ki
                  go_wp2_with fail
                  go_meet
                  exact ⟨rfl, rfl⟩
                · have cf0 : decide (200 < o.item.size) = false := decide_eq_false (by omega)
                  have cf1 : decide ((200 : Int) < (o.item.size : Int)) = false := decide_eq_false (by omega)
                  obtain rfl : bad = false := by rw [← Hbad.out]; exact decide_eq_false (by unfold Bad; omega)
                  try clear k4
                  try clear ki
                  go_wp2_with fail
                  go_meet
                  exact ⟨rfl, rfl⟩
              · obtain rfl : itb = false := by rw [← Hit.out]; exact decide_eq_false ki
                by_cases k4 : o.kind = 4
                · have q4 : (o.kind == 4) = true := by rw [k4]; rfl
                  by_cases cg : o.v < -1099511627776
                  · have cg0 : decide (o.v < -1099511627776) = true := decide_eq_true (by omega)
                    obtain rfl : bad = true := by rw [← Hbad.out]; exact decide_eq_true (by unfold Bad; omega)
                    try clear k4
                    try clear ki
                    go_wp2_with fail
                    go_meet
                    exact ⟨rfl, rfl⟩
                  · have cg0 : decide (o.v < -1099511627776) = false := decide_eq_false (by omega)
                    by_cases ch : 1099511627776 < o.v
                    · have ch0 : decide (1099511627776 < o.v) = true := decide_eq_true (by omega)
                      obtain rfl : bad = true := by rw [← Hbad.out]; exact decide_eq_true (by unfold Bad; omega)
                      try clear k4
                      try clear ki
                      go_wp2_with fail
                      go_meet
                      exact ⟨rfl, rfl⟩
                    · have ch0 : decide (1099511627776 < o.v) = false := decide_eq_false (by omega)
                      obtain rfl : bad = false := by rw [← Hbad.out]; exact decide_eq_false (by unfold Bad; omega)
                      try clear k4
                      try clear ki
                      go_wp2_with fail
                      go_meet
                      exact ⟨rfl, rfl⟩
                · have q4 : (o.kind == 4) = false := by rw [beq_eq_false_iff_ne]; exact k4
                  obtain rfl : bad = false := by rw [← Hbad.out]; exact decide_eq_false (by unfold Bad; omega)
                  try clear k4
                  try clear ki
                  go_wp2_with fail
                  go_meet
                  exact ⟨rfl, rfl⟩
  case rest =>
  obtain ⟨rfl, rfl⟩ := hcut
  cases bad with
  | true =>
    have HE : Hid (doS ⟨rs, l⟩ dev o = (none_, 1)) := do_bad (of_decide_eq_true Hbad.out)
    have hR := HR.out.kept HGr.out (by simp)
    have ee0 := hR.at_ (i := 0) rfl
    have ee1 := hR.at_ (i := 1) rfl
    have ee2 := hR.at_ (i := 2) rfl
    have ff0 := hR.free 0
    have ff1 := hR.free 1
    have ff2 := hR.free 2
    have HRk := Lib.hid hR
    clear hR
    go_wp2_with fail
    have m0 := gb_set1 W0 (h0 + 1 + 1) 0 (.slice none 0 0)
    have m1 := gb_set1 (W0.setCell ⟨h0 + 1 + 1, 0, none⟩ (.slice none 0 0)) (h0 + 1 + 1) 1 (.slice none 0 0)
    have m2 := gb_set1 ((W0.setCell ⟨h0 + 1 + 1, 0, none⟩ (.slice none 0 0)).setCell ⟨h0 + 1 + 1, 1, none⟩ (.slice none 0 0)) (h0 + 1 + 1) 2 (.int .i64 1)
    have r0 := HRk.out.set_ 0 (.slice none 0 0)
    have r1 := r0.set_ 1 (.slice none 0 0)
    have hh := Hh0.out
    have hgr := gb_new (gb_new (gb_new (gb_none HG.out HGr.out) m0 (by omega)) m1 (by omega)) m2 (by omega)
    refine bodyPost_ret (results_cell_row rfl _ _ (h0 + 1 + 1) 80 _ (0, 0) _ rfl (r1.set_ 2 (.int .i64 1)) Tryz.underlying80 rfl (by kernel_rfl)) rfl ?_
    show DoneIs _ _ _ _ _ _
    unfold DoneIs
    rw [HE.out]
    exact ⟨none, 0, 0, none, 0, 0, rfl, ⟨RL.none _ _, FL.none _ _⟩, Nat.le_refl _, Nat.le_refl _, hgr⟩
  | false =>
    have Hnb : Hid (¬ Bad dev o) := of_decide_eq_false Hbad.out
    go_wp2_with fail
    clear z0 z1 z2 z3 z4 z5
    go_loopw [10, 8, 9] (fun iv sv zv wr => ∃ (k : Nat) (G : List Fc) (z : Int), k ≤ n ∧ iv = .int .i64 k ∧ zv = .int .i64 z ∧ Hid (G = gone (l.take k) dev o) ∧ Hid (z = IntKind.i64.wrap (o.v + sumV G)) ∧ wr.ownsRow B0 44 2 sv G.length (dv (dotsF G)) ∧ W0.grownBy wr none) (fun iv _ _ _ => n - (intOf iv).toNat)
    case atStart => exact ⟨0, [], o.v, Nat.zero_le _, rfl, rfl, by show _ = _; simp [gone], by show _ = _; rw [show o.v + sumV [] = o.v by simp [sumV]]; exact Hov.out.symm, Hnil.out, gb_refl _ _⟩
    case round =>
      obtain ⟨k, G, z, hk, rfl, rfl, HGk, Hz, hown, hg⟩ := hrel
      obtain ⟨y0, y1, y2, y3, y4, y5⟩ := HC.out wr hg
      obtain ⟨N, hN⟩ : ∃ N, G.length = N := ⟨_, rfl⟩
      obtain ⟨A8, c8, hv, hdl, hle⟩ := own_dl hown (dotsF_len G)
      subst hv
      have hNn : N ≤ n := by rw [← hN, HGk.out]; exact Nat.le_trans (gone_len _ _ _) (by rw [List.length_take, Hl.out.1]; exact Nat.min_le_right _ _)
      rw [hN] at hown hdl hle ⊢
      have HN := Lib.hid hN
      have Hown := Lib.hid hown
      have Hg := Lib.hid hg
      have Hdl := Lib.hid hdl
      have HCr : Hid (∀ W, wr.grownBy W none → W.cell? ⟨h0, 0, none⟩ = some (.slice A p c) ∧ W.cell? ⟨h0, 1, none⟩ = some (.slice B n d) ∧ W.cell? ⟨h0 + 1, 0, none⟩ = some (.int .i64 o.kind) ∧ W.cell? ⟨h0 + 1, 1, none⟩ = some (.string o.key) ∧ W.cell? ⟨h0 + 1, 2, none⟩ = some (.string o.item) ∧ W.cell? ⟨h0 + 1, 3, none⟩ = some (.int .i64 o.v)) := fun W hW => HC.out W (gb_none Hg.out hW)
      clear hN hown hg hdl hle
      by_cases hlt : k < n
      · have d1 : decide (k < n) = true := decide_eq_true hlt
        have d2 : decide ((k : Int) < (n : Int)) = true := decide_eq_true (by omega)
        have bk : (k : Int) < (n : Int) := by omega
        obtain ⟨g, oo, rfl, hgl, hcc⟩ := Hl.out.2 (by omega)
        obtain ⟨x, hx⟩ : ∃ x, l[k]? = some x := ⟨_, List.getElem?_eq_getElem (by rw [Hl.out.1]; exact hlt)⟩
        have HX2 : Hid (∀ W, W0.grownBy W none → At6 W g (oo + k * 6) x) := fun W hW => (hcc k x hx).keep hgl hW
        have HX1 : Hid (∀ W, wr.grownBy W none → At6 W g (oo + k * 6) x) := fun W hW => HX2.out W (gb_none Hg.out hW)
        have Hx := Lib.hid hx
        obtain ⟨gb, hgb⟩ : ∃ gb, goesB x dev o = gb := ⟨_, rfl⟩
        have Hgb := Lib.hid hgb
        clear hcc hgl hx hgb
        go_upto_region 9 with fail
        clear y0 y1 y2 y3 y4 y5
        as_aux_lemma =>
        apply wp_region_told (le := fun a b => a.grownBy b none) [isV _, isV _, isV _, isV _, isV _, isV _, isV _, isV _]
        case hn => rfl
        case hm => kernel_rfl
        case hB => kernel_rfl
        case ht => exact fun _ _ _ h k => gb_none h k
        case hw => exact gb_drew (gb_refl _ _)
        -- 0: ref.go:309 fieldAddr
        apply told_is
        · intro W f hW hE h0 K hK
          have e3 := h0 3 (by kernel_rfl)
          conv at e3 => rhs; whnf
          clear hE h0
          refine yes_of (want_free rfl) ?_
          go_simp; exact hK _ _ (gb_refl _ _) rfl
        -- 1: ref.go:309 load
        apply told_is
        · intro W f hW hE h0 K hK
          have e82 : f 82 = _ := hE 0 82 _ rfl (by kernel_rfl)
          clear hE h0
          refine yes_of (want_free rfl) ?_
          obtain ⟨y0, y1, y2, y3, y4, y5⟩ := HCr.out W hW
          go_simp; exact hK _ _ (gb_refl _ _) rfl
        -- 2: ref.go:309 move
        apply told_is
        · intro W f hW hE h0 K hK
          have e10 := h0 10 (by kernel_rfl)
          conv at e10 => rhs; whnf
          clear hE h0
          refine yes_of (want_free rfl) ?_
          go_simp; exact hK _ _ (gb_refl _ _) rfl
        -- 3: ref.go:309 indexAddr
        apply told_is
        · intro W f hW hE h0 K hK
          have e83 : f 83 = _ := hE 1 83 _ rfl (by kernel_rfl)
          have e84 : f 84 = _ := hE 0 84 _ rfl (by kernel_rfl)
          clear hE h0
          refine yes_of (want_free rfl) ?_
          go_simp; exact hK _ _ (gb_refl _ _) rfl
        -- 4: ref.go:309 load
        apply told_is
        · intro W f hW hE h0 K hK
          have e85 : f 85 = _ := hE 0 85 _ rfl (by kernel_rfl)
          clear hE h0
          refine yes_of (want_free rfl) ?_
          obtain ⟨q0, q1, q2, q3, q4, q5⟩ := HX1.out W hW
          go_simp; exact hK _ _ (gb_refl _ _) rfl
        -- 5: ref.go:309 move
        apply told_is
        · intro W f hW hE h0 K hK
          have e1 := h0 1 (by kernel_rfl)
          conv at e1 => rhs; whnf
          clear hE h0
          refine yes_of (want_free rfl) ?_
          go_simp; exact hK _ _ (gb_refl _ _) rfl
        -- 6: ref.go:309 load
        apply told_is
        · intro W f hW hE h0 K hK
          have e5 := h0 5 (by kernel_rfl)
          conv at e5 => rhs; whnf
          clear hE h0
          refine yes_of (want_free rfl) ?_
          obtain ⟨y0, y1, y2, y3, y4, y5⟩ := HCr.out W hW
          go_simp; exact hK _ _ (gb_refl _ _) rfl
        -- 7: ref.go:309 call
        apply told_is
        · intro W f hW hE h0 K hK
          have e86 : f 86 = _ := hE 2 86 _ rfl (by kernel_rfl)
          have e87 : f 87 = _ := hE 1 87 _ rfl (by kernel_rfl)
          have e88 : f 88 = _ := hE 0 88 _ rfl (by kernel_rfl)
          clear hE h0
          refine yes_of (want_free rfl) ?_
          go_simp
          refine (refGoes_any x dev o W).mono ?_
          rintro e w1' ⟨he, g⟩; rw [Hgb.out] at he; subst he
          exact ⟨_, rfl, hK _ _ g rfl⟩
        intro W f hW hA
        simp only [lexIn, Act.put, List.setIfInBounds_toArray, List.set_cons_zero, List.set_cons_succ]
        have e89 : f 89 = _ := hA 0 (some 89) _ rfl
        rw [e89]
        clear hA
        obtain ⟨y0, y1, y2, y3, y4, y5⟩ := HCr.out W hW
        obtain ⟨q0, q1, q2, q3, q4, q5⟩ := HX1.out W hW
        have HgW : Hid (W0.grownBy W none) := gb_none Hg.out hW
        have HownW : Hid (W.ownsRow B0 44 2 (.slice A8 N c8) N (dv (dotsF G))) := Hown.out.kept hW (by cases hv : Value.ownBlock (.slice A8 N c8) <;> simp)
        clear hW
        cases gb with
        | true =>
          have Hmore : Hid (G ++ [x] = gone (l.take (k + 1)) dev o) := by show _ = _; rw [gone_more Hx.out, if_pos Hgb.out, ← HGk.out]
          have Hz2 : Hid (IntKind.i64.wrap (z + x.v) = IntKind.i64.wrap (o.v + sumV (G ++ [x]))) := by show _ = _; rw [Hz.out, wrap_add, sumV_snoc, Int.add_assoc]
          have hsz := HgW.out.size
          have Hb1 : Hid (N + 1 ≤ maxLen ∧ (N + 1) * 16 ≤ 140737488355328) := by show _ ∧ _; simp only [maxLen]; omega
          have Hb3 : Hid (B0 ≤ (W.alloc (.cells #[.int .i64 x.d, .int .i64 x.n] 44)).heap.size) := by show _ ≤ _; have := HB0.out; rw [World.size_alloc]; omega
          have HownW2 : Hid ((W.alloc (.cells #[.int .i64 x.d, .int .i64 x.n] 44)).ownsRow B0 44 2 (.slice A8 N c8) N (dv (dotsF G))) := HownW.out.alloc _
          obtain ⟨z2, hz2⟩ : ∃ z2, IntKind.i64.wrap (z + x.v) = z2 := ⟨_, rfl⟩
          have Hz3 : Hid (z2 = IntKind.i64.wrap (o.v + sumV (G ++ [x]))) := by show _ = _; rw [← hz2]; exact Hz2.out
          clear hsz
          go_upto_region 11 with (at_builtin; go_must (refine wpList_append_own _ rfl (.tmp 90) (.tmp 97) 118 rfl B0 44 i0 (.agg #[.int .i64 0, .int .i64 0]) 2 16 Tryz.underlying118 Hi0.out Hz0.out Hz1.out Hz2i.out rfl (by decide) _ N _ rfl HownW2.out ⟨W.heap.size, 0, none⟩ 1 1 [.int .i64 x.d, .int .i64 x.n] rfl rfl (World.news_of_block (cs := #[.int .i64 x.d, .int .i64 x.n]) (t := 44) (fr := (0, 0)) (heap_alloc_new W _)) (ints2 _ _) Hb1.out.1 Hb1.out.2 Hb3.out ?_); intro v1 w1 own1 grow1 _; obtain ⟨A1, c1, hv1⟩ := own_slice2 own1; subst hv1)
          have Hg1 : Hid (W0.grownBy w1 none) := gb_step (gb_alloc HgW.out _) grow1 (fun i e => .inr (by rw [HB0.out]; exact own_far2 HownW2.out i e))
          have Hown1 := Lib.hid own1
          obtain ⟨y0, y1, y2, y3, y4, y5⟩ := HC.out w1 Hg1.out
          obtain ⟨q0, q1, q2, q3, q4, q5⟩ := HX2.out w1 Hg1.out
          clear own1 grow1
          go_wp2_with fail
          go_roundw
          case rel =>
            refine ⟨k + 1, G ++ [x], z2, by omega, by go_num, rfl, Hmore.out, Hz3.out, ?_, Hg1.out⟩
            rw [dotsF_snoc, dv_append, List.length_append, HN.out]
            exact Hown1.out
          case measure => simp [intOf]; omega
        | false =>
          have Hmore : Hid (G = gone (l.take (k + 1)) dev o) := by show _ = _; rw [gone_more Hx.out, if_neg (by rw [Hgb.out]; simp), ← HGk.out]
          go_wp2_with fail
          go_roundw
          case rel => exact ⟨k + 1, G, z, by omega, by go_num, rfl, Hmore.out, Hz.out, by rw [HN.out]; exact HownW.out, HgW.out⟩
          case measure => simp [intOf]; omega
      · obtain rfl : n = k := by omega
        have d1 : decide (n < n) = false := by simp
        have d2 : decide ((n : Int) < (n : Int)) = false := by simp
        have HGo : Hid (G = gone l dev o) := by
          show _ = _
          rw [HGk.out, List.take_of_length_le (by rw [Hl.out.1]; exact Nat.le_refl _)]
        clear d1 HGk
        obtain ⟨nb, hnb⟩ : ∃ nb, decide (N = 0 ∧ Away o) = nb := ⟨_, rfl⟩
        have Hnbb := Lib.hid hnb
        clear hnb
        go_upto_region 12 with fail
        go_cut [119] (fun v wx => v = .bool nb ∧ wr = wx)
        case first =>
          as_aux_lemma =>
          by_cases e : N = 0
          · have e1 : ((N : Int) == 0) = true := by rw [e]; rfl
            by_cases k3 : o.kind = 3
            · have q3 : (o.kind == 3) = true := by rw [k3]; rfl
              obtain rfl : nb = true := by rw [← Hnbb.out]; exact decide_eq_true ⟨e, .inl k3⟩
              clear k3 e
              go_wp2_with fail
              go_meet
              exact ⟨rfl, rfl⟩
            · have q3 : (o.kind == 3) = false := by rw [beq_eq_false_iff_ne]; exact k3
              by_cases k5 : o.kind = 5
              · have q5 : (o.kind == 5) = true := by rw [k5]; rfl
                obtain rfl : nb = true := by rw [← Hnbb.out]; exact decide_eq_true ⟨e, .inr k5⟩
                clear k3 k5 e
                go_wp2_with fail
                go_meet
                exact ⟨rfl, rfl⟩
              · have q5 : (o.kind == 5) = false := by rw [beq_eq_false_iff_ne]; exact k5
                obtain rfl : nb = false := by rw [← Hnbb.out]; exact decide_eq_false (fun h => h.2.elim k3 k5)
                clear k3 k5 e
                go_wp2_with fail
                go_meet
                exact ⟨rfl, rfl⟩
          · have e1 : ((N : Int) == 0) = false := by rw [beq_eq_false_iff_ne]; omega
            obtain rfl : nb = false := by rw [← Hnbb.out]; exact decide_eq_false (fun h => e h.1)
            clear e
            go_wp2_with fail
            go_meet
            exact ⟨rfl, rfl⟩
        case rest =>
        obtain ⟨rfl, rfl⟩ := hcut
        have HGe : Hid (N = 0 ↔ gone l dev o = []) := by
          show _ ↔ _
          rw [← HGo.out, ← HN.out, List.length_eq_zero_iff]
        cases nb with
        | true =>
          have hb := of_decide_eq_true Hnbb.out
          have HE : Hid (doS ⟨rs, l⟩ dev o = (none_, 2)) := do_none Hnb.out ⟨HGe.out.1 hb.1, hb.2⟩
          clear hb y0 y1 y2 y3 y4 y5
          have hR := HR.out.kept Hg.out (by simp)
          have ee0 := hR.at_ (i := 0) rfl
          have ee1 := hR.at_ (i := 1) rfl
          have ee2 := hR.at_ (i := 2) rfl
          have ff0 := hR.free 0
          have ff1 := hR.free 1
          have ff2 := hR.free 2
          have HRk := Lib.hid hR
          clear hR
          go_wp2_with fail
          have m0 := gb_set1 wr (h0 + 1 + 1) 0 (.slice none 0 0)
          have m1 := gb_set1 (wr.setCell ⟨h0 + 1 + 1, 0, none⟩ (.slice none 0 0)) (h0 + 1 + 1) 1 (.slice none 0 0)
          have m2 := gb_set1 ((wr.setCell ⟨h0 + 1 + 1, 0, none⟩ (.slice none 0 0)).setCell ⟨h0 + 1 + 1, 1, none⟩ (.slice none 0 0)) (h0 + 1 + 1) 2 (.int .i64 2)
          have r0 := HRk.out.set_ 0 (.slice none 0 0)
          have r1 := r0.set_ 1 (.slice none 0 0)
          have hh := Hh0.out
          have hgr := gb_new (gb_new (gb_new (gb_none HG.out Hg.out) m0 (by omega)) m1 (by omega)) m2 (by omega)
          refine bodyPost_ret (results_cell_row rfl _ _ (h0 + 1 + 1) 80 _ (0, 0) _ rfl (r1.set_ 2 (.int .i64 2)) Tryz.underlying80 rfl (by kernel_rfl)) rfl ?_
          show DoneIs _ _ _ _ _ _
          unfold DoneIs
          rw [HE.out]
          exact ⟨none, 0, 0, none, 0, 0, rfl, ⟨RL.none _ _, FL.none _ _⟩, Nat.le_refl _, Nat.le_refl _, hgr⟩
        | false =>
          have HnotN : Hid (¬ (gone (⟨rs, l⟩ : St).facts dev o = [] ∧ Away o)) := fun h => of_decide_eq_false Hnbb.out ⟨HGe.out.2 h.1, h.2⟩
          obtain ⟨mk, hmk⟩ : ∃ mk, decide (Away o) = mk := ⟨_, rfl⟩
          have Hmk := Lib.hid hmk
          clear hmk y0 y1 y2 y3 y4 y5
          go_upto_region 15 with fail
          obtain ⟨y0, y1, y2, y3, y4, y5⟩ := HC.out (wr.alloc (.cells #[.slice none 0 0, .slice none 0 0] 25)) (gb_alloc Hg.out _)
          go_cut [128] (fun v wx => v = .bool (!mk) ∧ wr.alloc (.cells #[.slice none 0 0, .slice none 0 0] 25) = wx)
          case first =>
            as_aux_lemma =>
            by_cases k3 : o.kind = 3
            · have q3 : (o.kind != 3) = false := by rw [k3]; rfl
              obtain rfl : mk = true := by rw [← Hmk.out]; exact decide_eq_true (.inl k3)
              clear k3
              go_wp2_with fail
              go_meet
              exact ⟨rfl, rfl⟩
            · have q3 : (o.kind != 3) = true := by rw [bne_iff_ne]; exact k3
              by_cases k5 : o.kind = 5
              · have q5 : (o.kind != 5) = false := by rw [k5]; rfl
                obtain rfl : mk = true := by rw [← Hmk.out]; exact decide_eq_true (.inr k5)
                clear k3 k5
                go_wp2_with fail
                go_meet
                exact ⟨rfl, rfl⟩
              · have q5 : (o.kind != 5) = true := by rw [bne_iff_ne]; exact k5
                obtain rfl : mk = false := by rw [← Hmk.out]; exact decide_eq_false (fun h => h.elim k3 k5)
                clear k3 k5
                go_wp2_with fail
                go_meet
                exact ⟨rfl, rfl⟩
          case rest =>
          obtain ⟨rfl, rfl⟩ := hcut
          cases mk with
          | true =>
            have Haw : Hid (Away o) := by show Away o; exact of_decide_eq_true Hmk.out
            have HnotO : Hid (¬ Over ⟨rs, l⟩ dev o) := fun h => h.1 Haw.out
            have HG0t : Hid (W0.grownBy (wr.alloc (.cells #[.slice none 0 0, .slice none 0 0] 25)) none) := gb_alloc Hg.out _
            have Hrowd : Hid (Row (wr.alloc (.cells #[.slice none 0 0, .slice none 0 0] 25)) wr.heap.size 25 #[.slice none 0 0, .slice none 0 0]) := Row.new _ _ _
            have HDL : Hid (DL (wr.alloc (.cells #[.slice none 0 0, .slice none 0 0] 25)) A8 N (dotsF G)) := Hdl.out.keep (gb_alloc (gb_refl _ _) _)
            have HFp : Hid (∀ W, Kp wr.heap.size (wr.alloc (.cells #[.slice none 0 0, .slice none 0 0] 25)).heap.size (wr.alloc (.cells #[.slice none 0 0, .slice none 0 0] 25)) W → FL W none 0 []) := fun W _ => FL.none W none
            have HDe : Hid (delta ⟨rs, l⟩ dev o = ⟨ofR [] (dotsF G), []⟩) := by show _ = _; unfold delta; rw [if_pos Haw.out, HGo.out]
            clear y0 y1 y2 y3 y4 y5
            as_aux_lemma =>
            obtain ⟨Lu, hLu⟩ : ∃ Lu, (ofR [] (dotsF G)).length = Lu := ⟨_, rfl⟩
            have HLu := Lib.hid hLu
            have HLb : Hid (Lu ≤ 401) := by show _ ≤ _; have h := of_len (dotsF G); rw [hLu, HDL.out.1] at h; omega
            have Hof := Lib.hid (refOf_any A8 (N) c8 (dotsF G) (wr.alloc (.cells #[.slice none 0 0, .slice none 0 0] 25)) HDL.out (by omega))
            clear hLu
            go_upto_region 26 with (go_at_call 65; refine Hof.out.mono ?_; rintro e w6 ⟨U, cu, rfl, hU, ⟨_, hcu⟩, g6⟩; rw [HLu.out] at hU hcu ⊢; have r6 := Hrowd.out.kept g6 (by simp); have s0 := r6.at_ (i := 0) rfl; have s1 := r6.free 0; have R6 := Lib.hid r6; have HU6 := Lib.hid hU; have HG6 := Lib.hid g6; have Hcu6 := Lib.hid hcu; clear r6 hU g6 hcu)
            have k6 := gb_set1 w6 wr.heap.size 0 (.slice U Lu cu)
            refine Td.named (fun W => W0.grownBy W none ∧ Row W wr.heap.size 25 #[.slice U Lu cu, .slice none 0 0] ∧ RL W U Lu (ofR [] (dotsF G)) ∧ Kp wr.heap.size (wr.alloc (.cells #[.slice none 0 0, .slice none 0 0] 25)).heap.size (wr.alloc (.cells #[.slice none 0 0, .slice none 0 0] 25)) W ∧ (wr.alloc (.cells #[.slice none 0 0, .slice none 0 0] 25)).heap.size ≤ W.heap.size) ⟨gb_new (gb_none HG0t.out HG6.out) k6 Hg.out.size, R6.out.set_ 0 _, rl_beside HU6.out k6 R6.out, (Kp.of HG6.out (fun i e => by cases e) (Nat.le_refl _)).trans (Kp.of k6 (fun i e => by cases e; exact Nat.le_refl _) HG6.out.size), by rw [size_set1]; exact HG6.out.size⟩ ?_
            rintro W7 ⟨hg7, hrow7, hU7, hk7, hs7⟩
            have HW7s := Lib.hid hs7
            clear hs7
            clear k6 s0 s1
            have Hg7 := Lib.hid hg7
            have Hrow7 := Lib.hid hrow7
            have Hk7 := Lib.hid hk7
            have HG07 : Hid (W0.grownBy W7 none) := hg7
            have HSd : Hid (SL W7 U Lu none 0 (delta ⟨rs, l⟩ dev o)) := by show SL _ _ _ _ _ _; rw [HDe.out]; exact ⟨hU7, HFp.out W7 hk7⟩
            have HS7 : Hid (SL W7 A p B n ⟨rs, l⟩) := Hs.out.keep HG07.out
            have HSSd : Hid (SS (delta ⟨rs, l⟩ dev o)) := delta_ss HMS.out.ss Hnb.out HnotO.out
            obtain ⟨y0, y1, y2, y3, y4, y5⟩ := HC.out W7 HG07.out
            have t0 := hrow7.at_ (i := 0) rfl
            have t1 := hrow7.at_ (i := 1) rfl
            have hLb := HLb.out
            have Hjoin := Lib.hid (refJoin_any A B U (none) p c n d Lu cu 0 0 ⟨rs, l⟩ (delta ⟨rs, l⟩ dev o) W7 HS7.out HSd.out HMS.out.ss HSSd.out (by omega) (by omega) (by omega) (by omega))
            have hfld : ∀ (a b : Value) (W : World), (Instr.field 25 (.agg #[a, b]) 1).run Tryz.prog W = .ok b W := fun a b W => by kernel_rfl
            clear hg7 hrow7 hU7 hk7 hLb
            obtain ⟨fb, hfb⟩ : ∃ fb, decide (400 < (joinS ⟨rs, l⟩ (delta ⟨rs, l⟩ dev o)).facts.length) = fb := ⟨_, rfl⟩
            have Hfb := Lib.hid hfb
            clear hfb
            go_cut [181] (fun v wx => v = .bool fb ∧ W7.grownBy wx none)
            case first =>
              as_aux_lemma =>
              go_wp2_with (go_at_call 35; refine Hjoin.out.mono ?_; rintro e w8 ⟨JA, jn, jc, JB, jm, jd, rfl, hJ, _, _, g8⟩; have HJ8 := Lib.hid hJ; have HG8 := Lib.hid g8; clear hJ g8)
              go_meet
              exact ⟨congrArg Value.bool (by rw [← Hfb.out]; exact decide_eq_decide.2 (by have h := HJ8.out.2.1; omega)), HG8.out⟩
            case rest =>
            obtain ⟨rfl, hg8⟩ := hcut
            have HG8 : Hid (W7.grownBy wc none) := hg8
            have HG08 : Hid (W0.grownBy wc none) := gb_none HG07.out hg8
            clear y0 y1 y2 y3 y4 y5 t0 t1 hfld hg8 Hjoin
            cases fb with
            | true =>
              as_aux_lemma =>
              have HE : Hid (doS ⟨rs, l⟩ dev o = (none_, 4)) := do_full Hnb.out HnotN.out HnotO.out (of_decide_eq_true Hfb.out)
              have hR := HR.out.kept HG08.out (by simp)
              have ee0 := hR.at_ (i := 0) rfl
              have ee1 := hR.at_ (i := 1) rfl
              have ee2 := hR.at_ (i := 2) rfl
              have ff0 := hR.free 0
              have ff1 := hR.free 1
              have ff2 := hR.free 2
              have HRk := Lib.hid hR
              clear hR
              go_wp2_with fail
              have m0 := gb_set1 wc (h0 + 1 + 1) 0 (.slice none 0 0)
              have m1 := gb_set1 (wc.setCell ⟨h0 + 1 + 1, 0, none⟩ (.slice none 0 0)) (h0 + 1 + 1) 1 (.slice none 0 0)
              have m2 := gb_set1 ((wc.setCell ⟨h0 + 1 + 1, 0, none⟩ (.slice none 0 0)).setCell ⟨h0 + 1 + 1, 1, none⟩ (.slice none 0 0)) (h0 + 1 + 1) 2 (.int .i64 4)
              have r0 := HRk.out.set_ 0 (.slice none 0 0)
              have r1 := r0.set_ 1 (.slice none 0 0)
              have hh := Hh0.out
              have hgr := gb_new (gb_new (gb_new (gb_none HG.out HG08.out) m0 (by omega)) m1 (by omega)) m2 (by omega)
              refine bodyPost_ret (results_cell_row rfl _ _ (h0 + 1 + 1) 80 _ (0, 0) _ rfl (r1.set_ 2 (.int .i64 4)) Tryz.underlying80 rfl (by kernel_rfl)) rfl ?_
              show DoneIs _ _ _ _ _ _
              unfold DoneIs
              rw [HE.out]
              exact ⟨none, 0, 0, none, 0, 0, rfl, ⟨RL.none _ _, FL.none _ _⟩, Nat.le_refl _, Nat.le_refl _, hgr⟩
            | false =>
              as_aux_lemma =>
              have HE : Hid (doS ⟨rs, l⟩ dev o = (delta ⟨rs, l⟩ dev o, 0)) := do_ok Hnb.out HnotN.out HnotO.out (of_decide_eq_false Hfb.out)
              have hr8 := Hrow7.out.kept HG8.out (by simp)
              have t0 := hr8.at_ (i := 0) rfl
              have t1 := hr8.at_ (i := 1) rfl
              clear hr8
              have hR := HR.out.kept HG08.out (by simp)
              have ee0 := hR.at_ (i := 0) rfl
              have ee1 := hR.at_ (i := 1) rfl
              have ee2 := hR.at_ (i := 2) rfl
              have ff0 := hR.free 0
              have ff1 := hR.free 1
              have ff2 := hR.free 2
              have HRk := Lib.hid hR
              clear hR
              go_wp2_with fail
              have m0 := gb_set1 wc (h0 + 1 + 1) 0 (.slice U Lu cu)
              have m1 := gb_set1 (wc.setCell ⟨h0 + 1 + 1, 0, none⟩ (.slice U Lu cu)) (h0 + 1 + 1) 1 (.slice none 0 0)
              have m2 := gb_set1 ((wc.setCell ⟨h0 + 1 + 1, 0, none⟩ (.slice U Lu cu)).setCell ⟨h0 + 1 + 1, 1, none⟩ (.slice none 0 0)) (h0 + 1 + 1) 2 (.int .i64 0)
              have r0 := HRk.out.set_ 0 (.slice U Lu cu)
              have r1 := r0.set_ 1 (.slice none 0 0)
              have hh := Hh0.out
              have hlo : ∀ i, some (h0 + 1 + 1) = some i → i ≤ wr.heap.size := fun i e => by cases e; have h1 := HR.out.lt; have h2 := Hg.out.size; omega
              have hgr := gb_new (gb_new (gb_new (gb_none HG.out HG08.out) m0 (by omega)) m1 (by omega)) m2 (by omega)
              refine bodyPost_ret (results_cell_row rfl _ _ (h0 + 1 + 1) 80 _ (0, 0) _ rfl (r1.set_ 2 (.int .i64 0)) Tryz.underlying80 rfl (by kernel_rfl)) rfl ?_
              show DoneIs _ _ _ _ _ _
              unfold DoneIs
              rw [HE.out]
              exact ⟨U, Lu, cu, none, 0, 0, rfl, ⟨rl_beside3 (rl_beside3 (rl_beside3 (HSd.out.1.keep HG8.out) m0 HRk.out) m1 r0) m2 r1, (by rw [HDe.out]; exact HFp.out _ ((((Hk7.out.trans (Kp.of HG8.out (fun i e => by cases e) HW7s.out)).trans (Kp.of m0 hlo (Nat.le_trans HW7s.out HG8.out.size))).trans (Kp.of m1 hlo (by rw [size_set1]; exact Nat.le_trans HW7s.out HG8.out.size))).trans (Kp.of m2 hlo (by rw [size_set1, size_set1]; exact Nat.le_trans HW7s.out HG8.out.size))))⟩, Hcu6.out, Nat.le_refl _, hgr⟩
          | false =>
            have Hna : Hid (¬ Away o) := of_decide_eq_false Hmk.out
            as_aux_lemma =>
            obtain ⟨la, hla⟩ : ∃ la, lastR dev rs 0 = la := ⟨_, rfl⟩
            have hlb := last_bound HMS.out.1 dev
            have hlg := last_ge HMS.out.1 dev
            dsimp only at hlb hlg
            rw [hla] at hlb hlg
            obtain ⟨ln, hln⟩ : ∃ ln, la + 1 = ln := ⟨_, rfl⟩
            have Hla := Lib.hid hla
            have Hln : Hid (IntKind.i64.wrap (la + 1) = ln) := by show _ = _; rw [IntKind.wrap_i64]; omega
            have Hln2 := Lib.hid hln
            have HCd : Hid (∀ W, (wr.alloc (.cells #[.slice none 0 0, .slice none 0 0] 25)).grownBy W none → W.cell? ⟨h0, 0, none⟩ = some (.slice A p c) ∧ W.cell? ⟨h0, 1, none⟩ = some (.slice B n d) ∧ W.cell? ⟨h0 + 1, 0, none⟩ = some (.int .i64 o.kind) ∧ W.cell? ⟨h0 + 1, 1, none⟩ = some (.string o.key) ∧ W.cell? ⟨h0 + 1, 2, none⟩ = some (.string o.item) ∧ W.cell? ⟨h0 + 1, 3, none⟩ = some (.int .i64 o.v)) := fun W hW => HC.out W (gb_none (gb_alloc Hg.out _) hW)
            clear hla hlb hlg hln y0 y1 y2 y3 y4 y5
            go_upto_region 16 with fail
            apply wp_region_told_tail (le := fun a b => a.grownBy b none) 15 _ [isV _, isV _, isV _, isV _, isV _, isV _, isV _, isV _, isV _, isV _, isV _, isV _, isV _, isV _, newB _ 46 #[.int .i64 0, .int .i64 0, .string ⟨#[]⟩, .int .i64 0, .string ⟨#[]⟩, .int .i64 0]]
            case hL => rfl
            case hz => rfl
            case hLd => rfl
            case hLg => rfl
            case hLw => kernel_rfl
            case hlen => rfl
            case hn => rfl
            case hm => kernel_rfl
            case hB => kernel_rfl
            case ht => exact fun _ _ _ h k => gb_none h k
            case hw => exact gb_drew (gb_refl _ _)
            -- 0: ref.go:319 move
            apply told_is
            · intro W f hW hE h0 K hK
              have e1 := h0 1 (by kernel_rfl)
              conv at e1 => rhs; whnf
              clear hE h0
              refine yes_of (want_free rfl) ?_
              go_simp; exact hK _ _ (gb_refl _ _) rfl
            -- 1: ref.go:319 fieldAddr
            apply told_is
            · intro W f hW hE h0 K hK
              have e3 := h0 3 (by kernel_rfl)
              conv at e3 => rhs; whnf
              clear hE h0
              refine yes_of (want_free rfl) ?_
              go_simp; exact hK _ _ (gb_refl _ _) rfl
            -- 2: ref.go:319 load
            apply told_is
            · intro W f hW hE h0 K hK
              have e130 : f 130 = _ := hE 0 130 _ rfl (by kernel_rfl)
              clear hE h0
              refine yes_of (want_free rfl) ?_
              obtain ⟨y0, y1, y2, y3, y4, y5⟩ := HCd.out W hW
              go_simp; exact hK _ _ (gb_refl _ _) rfl
            -- 3: ref.go:319 move
            apply told_is
            · intro W f hW hE h0 K hK
              have e1 := h0 1 (by kernel_rfl)
              conv at e1 => rhs; whnf
              clear hE h0
              refine yes_of (want_free rfl) ?_
              go_simp; exact hK _ _ (gb_refl _ _) rfl
            -- 4: ref.go:319 call
            apply told_is
            · intro W f hW hE h0 K hK
              have e131 : f 131 = _ := hE 1 131 _ rfl (by kernel_rfl)
              have e132 : f 132 = _ := hE 0 132 _ rfl (by kernel_rfl)
              clear hE h0
              refine yes_of (want_free rfl) ?_
              go_simp
              refine (refLast_any A p c rs dev W (Hs.out.1.keep (gb_none (gb_alloc Hg.out _) hW)) (by omega)).mono ?_
              rintro e w1' ⟨he, g⟩; rw [Hla.out] at he; subst he
              exact ⟨_, rfl, hK _ _ g rfl⟩
            -- 5: ref.go:319 binOp
            apply told_is
            · intro W f hW hE h0 K hK
              have e133 : f 133 = _ := hE 0 133 _ rfl (by kernel_rfl)
              clear hE h0
              refine yes_of (want_free rfl) ?_
              have hw := Hln.out
              go_simp; exact hK _ _ (gb_refl _ _) rfl
            -- 6: ref.go:319 build
            apply told_is
            · intro W f hW hE h0 K hK
              have e129 : f 129 = _ := hE 5 129 _ rfl (by kernel_rfl)
              have e134 : f 134 = _ := hE 0 134 _ rfl (by kernel_rfl)
              clear hE h0
              refine yes_of (want_free rfl) ?_
              go_simp; exact hK _ _ (gb_refl _ _) rfl
            -- 7: ref.go:319 fieldAddr
            apply told_is
            · intro W f hW hE h0 K hK
              have e5 := h0 5 (by kernel_rfl)
              conv at e5 => rhs; whnf
              clear hE h0
              refine yes_of (want_free rfl) ?_
              go_simp; exact hK _ _ (gb_refl _ _) rfl
            -- 8: ref.go:319 load
            apply told_is
            · intro W f hW hE h0 K hK
              have e136 : f 136 = _ := hE 0 136 _ rfl (by kernel_rfl)
              clear hE h0
              refine yes_of (want_free rfl) ?_
              obtain ⟨y0, y1, y2, y3, y4, y5⟩ := HCd.out W hW
              go_simp; exact hK _ _ (gb_refl _ _) rfl
            -- 9: ref.go:319 fieldAddr
            apply told_is
            · intro W f hW hE h0 K hK
              have e5 := h0 5 (by kernel_rfl)
              conv at e5 => rhs; whnf
              clear hE h0
              refine yes_of (want_free rfl) ?_
              go_simp; exact hK _ _ (gb_refl _ _) rfl
            -- 10: ref.go:319 load
            apply told_is
            · intro W f hW hE h0 K hK
              have e138 : f 138 = _ := hE 0 138 _ rfl (by kernel_rfl)
              clear hE h0
              refine yes_of (want_free rfl) ?_
              obtain ⟨y0, y1, y2, y3, y4, y5⟩ := HCd.out W hW
              go_simp; exact hK _ _ (gb_refl _ _) rfl
            -- 11: ref.go:319 fieldAddr
            apply told_is
            · intro W f hW hE h0 K hK
              have e5 := h0 5 (by kernel_rfl)
              conv at e5 => rhs; whnf
              clear hE h0
              refine yes_of (want_free rfl) ?_
              go_simp; exact hK _ _ (gb_refl _ _) rfl
            -- 12: ref.go:319 load
            apply told_is
            · intro W f hW hE h0 K hK
              have e140 : f 140 = _ := hE 0 140 _ rfl (by kernel_rfl)
              clear hE h0
              refine yes_of (want_free rfl) ?_
              obtain ⟨y0, y1, y2, y3, y4, y5⟩ := HCd.out W hW
              go_simp; exact hK _ _ (gb_refl _ _) rfl
            -- 13: ref.go:319 build
            apply told_is
            · intro W f hW hE h0 K hK
              have e135 : f 135 = _ := hE 6 135 _ rfl (by kernel_rfl)
              have e137 : f 137 = _ := hE 4 137 _ rfl (by kernel_rfl)
              have e139 : f 139 = _ := hE 2 139 _ rfl (by kernel_rfl)
              have e141 : f 141 = _ := hE 0 141 _ rfl (by kernel_rfl)
              clear hE h0
              refine yes_of (want_free rfl) ?_
              go_simp; exact hK _ _ (gb_refl _ _) rfl
            -- 14: ref.go:319 alloc
            apply told_at newB_stays
            · intro W f hW hE h0 K hK
              clear hE h0
              refine yes_of (want_free rfl) ?_
              go_simp
              exact hK _ _ (gb_alloc (gb_refl _ _) _) ⟨_, rfl, hW.size, Row.new _ _ _⟩
            intro W f hW hA
            simp only [lexIn, Act.put, List.setIfInBounds_toArray, List.set_cons_zero, List.set_cons_succ]
            have e142 : f 142 = _ := hA 1 (some 142) _ rfl
            rw [e142]
            have e12 := hA 0 (some 12) _ rfl
            clear hA
            obtain ⟨gq, eq_, hgN, hr⟩ := e12
            rw [eq_]
            have q0 := hr.free 0
            have u0 := hr.at_ (i := 0) rfl
            have q1 := hr.free 1
            have u1 := hr.at_ (i := 1) rfl
            have q2 := hr.free 2
            have u2 := hr.at_ (i := 2) rfl
            have q3 := hr.free 3
            have u3 := hr.at_ (i := 3) rfl
            have q4 := hr.free 4
            have u4 := hr.at_ (i := 4) rfl
            have q5 := hr.free 5
            have u5 := hr.at_ (i := 5) rfl
            have Hrs := Lib.hid ((((((hr.set_ 0 (.int .i64 dev)).set_ 1 (.int .i64 ln)).set_ 2 (.string o.key)).set_ 3 (.int .i64 o.kind)).set_ 4 (.string o.item)).set_ 5 (.int .i64 0))
            have Gw := Lib.hid (gb_new (gb_new (gb_new (gb_new (gb_new (gb_new hW (gb_set1 _ gq 0 (.int .i64 dev)) hgN) (gb_set1 _ gq 1 (.int .i64 ln)) hgN) (gb_set1 _ gq 2 (.string o.key)) hgN) (gb_set1 _ gq 3 (.int .i64 o.kind)) hgN) (gb_set1 _ gq 4 (.string o.item)) hgN) (gb_set1 _ gq 5 (.int .i64 0)) hgN)
            have HgN := Lib.hid hgN
            clear hgN hW
            rw [ends_is]
            go_simp
            clear q0 q1 q2 q3 q4 q5 u0 u1 u2 u3 u4 u5 hr
            go_upto_region 17 with fail
            refine Td.named (fun W' => (wr.alloc (.cells #[.slice none 0 0, .slice none 0 0] 25)).grownBy W' none ∧ Row W' gq 46 #[.int .i64 dev, .int .i64 ln, .string o.key, .int .i64 o.kind, .string o.item, .int .i64 0]) ⟨Gw.out, Hrs.out⟩ ?_
            rintro W8 ⟨hg8, hrow8⟩
            clear Gw Hrs
            have Hgq : Hid (wr.heap.size < gq) := by show _ < _; have h := HgN.out; rw [World.size_alloc] at h; omega
            have HG8 := Lib.hid hg8
            have Hrow8 := Lib.hid hrow8
            obtain ⟨y0, y1, y2, y3, y4, y5⟩ := HCd.out W8 hg8
            obtain ⟨b4, hb4⟩ : ∃ b4, (o.kind == 4) = b4 := ⟨_, rfl⟩
            have Hb4 := Lib.hid hb4
            obtain ⟨nf, hnf⟩ : ∃ nf, newF ⟨rs, l⟩ dev o = nf := ⟨_, rfl⟩
            have HNF := Lib.hid hnf
            clear hnf hg8 hrow8
            go_upto_if 145 with fail
            clear y0 y1 y2 y3 y4 y5 hb4
            go_cut [148] (fun _ wx => (wr.alloc (.cells #[.slice none 0 0, .slice none 0 0] 25)).grownBy wx none ∧ Row wx gq 46 #[.int .i64 nf.d, .int .i64 nf.n, .string nf.key, .int .i64 nf.kind, .string nf.item, .int .i64 nf.v])
            case first =>
              as_aux_lemma =>
              cases b4 with
              | true =>
                have k4 : o.kind = 4 := by have h := Hb4.out; rwa [beq_iff_eq] at h
                have hbd : -1099511627776 ≤ o.v ∧ o.v ≤ 1099511627776 := by have h := Hnb.out; unfold Bad at h; omega
                have Hz4 : Hid (z = o.v + sumV (gone l dev o)) := by show _ = _; rw [Hz.out, HGo.out]; exact sum_in HMS.out dev o hbd.1 hbd.2
                have HN4 : Hid (nf = ⟨dev, ln, o.key, 3, ⟨#[]⟩, z⟩) := by show _ = _; rw [← HNF.out, Hz4.out, ← Hln2.out, ← Hla.out]; unfold newF; rw [if_pos k4]
                have q3 := Hrow8.out.free 3
                have q4 := Hrow8.out.free 4
                have q5 := Hrow8.out.free 5
                have u3 := Hrow8.out.at_ (i := 3) rfl
                have u4 := Hrow8.out.at_ (i := 4) rfl
                have u5 := Hrow8.out.at_ (i := 5) rfl
                clear k4 hbd
                go_wp2_with fail
                go_meet
                rw [HN4.out]
                exact ⟨gb_new (gb_new (gb_new HG8.out (gb_set1 _ gq 3 _) HgN.out) (gb_set1 _ gq 4 _) HgN.out) (gb_set1 _ gq 5 _) HgN.out, ((Hrow8.out.set_ 3 (.int .i64 3)).set_ 4 (.string ⟨#[]⟩)).set_ 5 (.int .i64 z)⟩
              | false =>
                have k4 : ¬ o.kind = 4 := by have h := Hb4.out; rwa [beq_eq_false_iff_ne] at h
                have HN4 : Hid (nf = ⟨dev, ln, o.key, o.kind, o.item, 0⟩) := by show _ = _; rw [← HNF.out, ← Hln2.out, ← Hla.out]; unfold newF; rw [if_neg k4]
                clear k4
                go_wp2_with fail
                go_meet
                rw [HN4.out]
                exact ⟨HG8.out, Hrow8.out⟩
            case rest =>
              obtain ⟨hgx, hrowx⟩ := hcut
              as_aux_lemma =>
              have HGx := Lib.hid hgx
              have Hrowx := Lib.hid hrowx
              have HG0x : Hid (W0.grownBy wc none) := gb_none (gb_alloc Hg.out _) hgx
              obtain ⟨ov, hovr⟩ : ∃ ov, decide (Over ⟨rs, l⟩ dev o) = ov := ⟨_, rfl⟩
              have Hovr := Lib.hid hovr
              have u0 := hrowx.at_ (i := 0) rfl
              have u1 := hrowx.at_ (i := 1) rfl
              have u2 := hrowx.at_ (i := 2) rfl
              have u3 := hrowx.at_ (i := 3) rfl
              have u4 := hrowx.at_ (i := 4) rfl
              have u5 := hrowx.at_ (i := 5) rfl
              clear hgx hrowx hovr
              go_upto_region 21 with fail
              go_cut [163] (fun v wx => v = .bool ov ∧ wc = wx)
              case first =>
                as_aux_lemma =>
                by_cases c1 : 4503599627370496 < nf.n
                · have d1 : decide (4503599627370496 < nf.n) = true := decide_eq_true c1
                  obtain rfl : ov = true := by rw [← Hovr.out]; exact decide_eq_true (by unfold Over; rw [HNF.out]; exact ⟨Hna.out, .inl c1⟩)
                  go_wp2_with fail
                  go_meet
                  exact ⟨rfl, rfl⟩
                · have d1 : decide (4503599627370496 < nf.n) = false := decide_eq_false c1
                  by_cases c2 : nf.v < -1099511627776
                  · have d2 : decide (nf.v < -1099511627776) = true := decide_eq_true c2
                    obtain rfl : ov = true := by rw [← Hovr.out]; exact decide_eq_true (by unfold Over; rw [HNF.out]; exact ⟨Hna.out, .inr (.inl c2)⟩)
                    go_wp2_with fail
                    go_meet
                    exact ⟨rfl, rfl⟩
                  · have d2 : decide (nf.v < -1099511627776) = false := decide_eq_false c2
                    by_cases c3 : 1099511627776 < nf.v
                    · have d3 : decide (1099511627776 < nf.v) = true := decide_eq_true c3
                      obtain rfl : ov = true := by rw [← Hovr.out]; exact decide_eq_true (by unfold Over; rw [HNF.out]; exact ⟨Hna.out, .inr (.inr c3)⟩)
                      go_wp2_with fail
                      go_meet
                      exact ⟨rfl, rfl⟩
                    · have d3 : decide (1099511627776 < nf.v) = false := decide_eq_false c3
                      obtain rfl : ov = false := by rw [← Hovr.out]; exact decide_eq_false (by unfold Over; rw [HNF.out]; exact fun h => h.2.elim c1 fun h => h.elim c2 c3)
                      go_wp2_with fail
                      go_meet
                      exact ⟨rfl, rfl⟩
              case rest =>
              obtain ⟨rfl, rfl⟩ := hcut
              cases ov with
              | true =>
                have HE : Hid (doS ⟨rs, l⟩ dev o = (none_, 4)) := do_over Hnb.out HnotN.out (of_decide_eq_true Hovr.out)
                clear u0 u1 u2 u3 u4 u5
                have hR := HR.out.kept HG0x.out (by simp)
                have ee0 := hR.at_ (i := 0) rfl
                have ee1 := hR.at_ (i := 1) rfl
                have ee2 := hR.at_ (i := 2) rfl
                have ff0 := hR.free 0
                have ff1 := hR.free 1
                have ff2 := hR.free 2
                have HRk := Lib.hid hR
                clear hR
                go_wp2_with fail
                have m0 := gb_set1 wc (h0 + 1 + 1) 0 (.slice none 0 0)
                have m1 := gb_set1 (wc.setCell ⟨h0 + 1 + 1, 0, none⟩ (.slice none 0 0)) (h0 + 1 + 1) 1 (.slice none 0 0)
                have m2 := gb_set1 ((wc.setCell ⟨h0 + 1 + 1, 0, none⟩ (.slice none 0 0)).setCell ⟨h0 + 1 + 1, 1, none⟩ (.slice none 0 0)) (h0 + 1 + 1) 2 (.int .i64 4)
                have r0 := HRk.out.set_ 0 (.slice none 0 0)
                have r1 := r0.set_ 1 (.slice none 0 0)
                have hh := Hh0.out
                have hgr := gb_new (gb_new (gb_new (gb_none HG.out HG0x.out) m0 (by omega)) m1 (by omega)) m2 (by omega)
                refine bodyPost_ret (results_cell_row rfl _ _ (h0 + 1 + 1) 80 _ (0, 0) _ rfl (r1.set_ 2 (.int .i64 4)) Tryz.underlying80 rfl (by kernel_rfl)) rfl ?_
                show DoneIs _ _ _ _ _ _
                unfold DoneIs
                rw [HE.out]
                exact ⟨none, 0, 0, none, 0, 0, rfl, ⟨RL.none _ _, FL.none _ _⟩, Nat.le_refl _, Nat.le_refl _, hgr⟩
              | false =>
                have HnotO : Hid (¬ Over ⟨rs, l⟩ dev o) := of_decide_eq_false Hovr.out
                have Hgwx : Hid (wr.grownBy wc none) := gb_none (gb_alloc (gb_refl _ _) _) HGx.out
                have Hownx : Hid (wc.ownsRow B0 44 2 (.slice A8 N c8) N (dv (dotsF G))) := Hown.out.kept Hgwx.out (by cases hv : Value.ownBlock (.slice A8 N c8) <;> simp)
                have Hownx2 : Hid ((wc.alloc (.cells #[.int .i64 nf.d, .int .i64 nf.n] 44)).ownsRow B0 44 2 (.slice A8 N c8) N (dv (dotsF G))) := Hownx.out.alloc _
                have Hrd : Hid (Row wc wr.heap.size 25 #[.slice none 0 0, .slice none 0 0]) := (Row.new wr 25 #[.slice none 0 0, .slice none 0 0]).kept HGx.out (by simp)
                have Hlt8 : Hid (∀ i, Value.ownBlock (.slice A8 N c8) = some i → B0 ≤ i ∧ i < wr.heap.size) := fun i e => Hown.out.lt i e
                have Hb1 : Hid (N + 1 ≤ maxLen ∧ (N + 1) * 16 ≤ 140737488355328) := by show _ ∧ _; simp only [maxLen]; omega
                have Hb3 : Hid (B0 ≤ (wc.alloc (.cells #[.int .i64 nf.d, .int .i64 nf.n] 44)).heap.size) := by show _ ≤ _; have := HB0.out; have := HG0x.out.size; rw [World.size_alloc]; omega
                go_upto_region 24 with (at_builtin; go_must (refine wpList_append_own _ rfl (.tmp 165) (.tmp 168) 118 rfl B0 44 i0 (.agg #[.int .i64 0, .int .i64 0]) 2 16 Tryz.underlying118 Hi0.out Hz0.out Hz1.out Hz2i.out rfl (by decide) _ N _ rfl Hownx2.out ⟨wc.heap.size, 0, none⟩ 1 1 [.int .i64 nf.d, .int .i64 nf.n] rfl rfl (World.news_of_block (cs := #[.int .i64 nf.d, .int .i64 nf.n]) (t := 44) (fr := (0, 0)) (heap_alloc_new wc _)) (ints2 _ _) Hb1.out.1 Hb1.out.2 Hb3.out ?_); intro v1 w1 own1 grow1 _; obtain ⟨A1, c1, hv1⟩ := own_slice2 own1; subst hv1)
                have hneq : ∀ g, wr.heap.size ≤ g → some g ≠ Value.ownBlock (.slice A8 N c8) := fun g hge e => by have h := (Hlt8.out g e.symm).2; omega
                have r1 := (Hrowx.out.alloc (.cells #[.int .i64 nf.d, .int .i64 nf.n] 44)).kept grow1 (hneq gq (Nat.le_of_lt Hgq.out))
                have rd1 := (Hrd.out.alloc (.cells #[.int .i64 nf.d, .int .i64 nf.n] 44)).kept grow1 (hneq _ (Nat.le_refl _))
                have HG01 : Hid (W0.grownBy w1 none) := gb_step (gb_alloc HG0x.out _) grow1 (fun i e => .inr (by rw [HB0.out]; exact (Hlt8.out i e).1))
                have hl8 : dv (dotsF G) ++ [.int .i64 nf.d, .int .i64 nf.n] = dv (dotsF G ++ [(nf.d, nf.n)]) := by rw [dv_append]; rfl
                rw [hl8] at own1
                have Own1 := Lib.hid own1
                have R1 := Lib.hid r1
                have Rd1 := Lib.hid rd1
                have Hgf : Hid (wr.heap.size < w1.heap.size) := rd1.lt
                have x0 := r1.at_ (i := 0) rfl
                have x1 := r1.at_ (i := 1) rfl
                have x2 := r1.at_ (i := 2) rfl
                have x3 := r1.at_ (i := 3) rfl
                have x4 := r1.at_ (i := 4) rfl
                have x5 := r1.at_ (i := 5) rfl
                obtain ⟨gf, hgf⟩ : ∃ gf, w1.heap.size = gf := ⟨_, rfl⟩
                have HGF := Lib.hid hgf
                have Hgl : Hid (wr.heap.size < gf) := by show _ < _; rw [← hgf]; exact Hgf.out
                have HR2 : Hid (W0.grownBy (w1.alloc (.cells #[.int .i64 nf.d, .int .i64 nf.n, .string nf.key, .int .i64 nf.kind, .string nf.item, .int .i64 nf.v] 46)) none ∧ Row (w1.alloc (.cells #[.int .i64 nf.d, .int .i64 nf.n, .string nf.key, .int .i64 nf.kind, .string nf.item, .int .i64 nf.v] 46)) wr.heap.size 25 #[.slice none 0 0, .slice none 0 0] ∧ Row (w1.alloc (.cells #[.int .i64 nf.d, .int .i64 nf.n, .string nf.key, .int .i64 nf.kind, .string nf.item, .int .i64 nf.v] 46)) gf 46 #[.int .i64 nf.d, .int .i64 nf.n, .string nf.key, .int .i64 nf.kind, .string nf.item, .int .i64 nf.v] ∧ (w1.alloc (.cells #[.int .i64 nf.d, .int .i64 nf.n, .string nf.key, .int .i64 nf.kind, .string nf.item, .int .i64 nf.v] 46)).ownsRow B0 44 2 (.slice A1 (N + 1) c1) (N + 1) (dv (dotsF G ++ [(nf.d, nf.n)]))) := ⟨gb_alloc HG01.out _, Rd1.out.alloc _, by rw [← hgf]; exact Row.new w1 46 #[.int .i64 nf.d, .int .i64 nf.n, .string nf.key, .int .i64 nf.kind, .string nf.item, .int .i64 nf.v], Own1.out.alloc _⟩
                clear own1 grow1 r1 rd1 hneq hl8 u0 u1 u2 u3 u4 u5 hgf
                refine wp_region_lit ?_
                refine Great.wpList_readTo rfl (some 170) rfl (.agg #[.int .i64 nf.d, .int .i64 nf.n, .string nf.key, .int .i64 nf.kind, .string nf.item, .int .i64 nf.v]) (by go_simp) ?_
                simp only [Act.put, List.setIfInBounds_toArray, List.set_cons_zero, List.set_cons_succ]
                refine build_fact (fun W => W0.grownBy W none ∧ Row W wr.heap.size 25 #[.slice none 0 0, .slice none 0 0] ∧ Row W gf 46 #[.int .i64 nf.d, .int .i64 nf.n, .string nf.key, .int .i64 nf.kind, .string nf.item, .int .i64 nf.v] ∧ W.ownsRow B0 44 2 (.slice A1 (N + 1) c1) (N + 1) (dv (dotsF G ++ [(nf.d, nf.n)]))) nf 170 rfl rfl gf HGF.out (some 171) rfl (by kernel_rfl) HR2.out ?_
                rintro W2 ⟨hg2, hd2, hf2, ho2⟩
                simp only [Act.put, List.setIfInBounds_toArray, List.set_cons_zero, List.set_cons_succ]
                refine Great.wpList_readTo rfl (some 172) rfl (.pointer (some ⟨wr.heap.size, 1, none⟩)) (by go_simp) ?_
                have e1 := hd2.at_ (i := 1) rfl
                have f1 := hd2.free 1
                have Hg2 := Lib.hid hg2
                have Hd2 := Lib.hid hd2
                have Hf2 := Lib.hid hf2
                have Ho2 := Lib.hid ho2
                clear hg2 hd2 hf2 ho2 x0 x1 x2 x3 x4 x5
                go_upto_region 25 with fail
                clear e1 f1
                have k9 := gb_set1 W2 wr.heap.size 1 (.slice (some ⟨gf, 0, none⟩) 1 1)
                refine Td.named (fun W => W0.grownBy W none ∧ Row W wr.heap.size 25 #[.slice none 0 0, .slice (some ⟨gf, 0, none⟩) 1 1] ∧ Row W gf 46 #[.int .i64 nf.d, .int .i64 nf.n, .string nf.key, .int .i64 nf.kind, .string nf.item, .int .i64 nf.v] ∧ DL W A1 (N + 1) (dotsF G ++ [(nf.d, nf.n)])) ⟨gb_new Hg2.out k9 Hg.out.size, Hd2.out.set_ 1 _, Hf2.out.kept k9 (fun e => by have h := Hgl.out; cases e; omega), own_dl' (Ho2.out.kept k9 (.inr (own_ne Ho2.out Hd2.out (by decide)))) (by rw [List.length_append, dotsF_len, HN.out]; rfl)⟩ ?_
                rintro W9 ⟨hg9, hrd9, hrf9, hdl9⟩
                have HG0t := Lib.hid hg9
                have Hrowd := Lib.hid hrd9
                have HDL := Lib.hid hdl9
                have HFp : Hid (∀ W, Kp wr.heap.size W9.heap.size W9 W → FL W (some ⟨gf, 0, none⟩) 1 [nf]) := fun W hk => fl_row ((hk gf Hgl.out hrf9.lt).trans hrf9)
                have HDe : Hid (delta ⟨rs, l⟩ dev o = ⟨ofR [] (dotsF G ++ [(nf.d, nf.n)]), [nf]⟩) := by
                  show _ = _
                  have h := newF_dot ⟨rs, l⟩ dev o
                  rw [HNF.out] at h
                  unfold delta
                  rw [if_neg Hna.out, HNF.out, h.1, h.2, HGo.out]
                clear hg9 hrd9 hrf9 hdl9 k9
                as_aux_lemma =>
                obtain ⟨Lu, hLu⟩ : ∃ Lu, (ofR [] (dotsF G ++ [(nf.d, nf.n)])).length = Lu := ⟨_, rfl⟩
                have HLu := Lib.hid hLu
                have HLb : Hid (Lu ≤ 401) := by show _ ≤ _; have h := of_len (dotsF G ++ [(nf.d, nf.n)]); rw [hLu, HDL.out.1] at h; omega
                have Hof := Lib.hid (refOf_any A1 (N + 1) c1 (dotsF G ++ [(nf.d, nf.n)]) (W9) HDL.out (by omega))
                clear hLu
                go_upto_region 26 with (go_at_call 65; refine Hof.out.mono ?_; rintro e w6 ⟨U, cu, rfl, hU, ⟨_, hcu⟩, g6⟩; rw [HLu.out] at hU hcu ⊢; have r6 := Hrowd.out.kept g6 (by simp); have s0 := r6.at_ (i := 0) rfl; have s1 := r6.free 0; have R6 := Lib.hid r6; have HU6 := Lib.hid hU; have HG6 := Lib.hid g6; have Hcu6 := Lib.hid hcu; clear r6 hU g6 hcu)
                have k6 := gb_set1 w6 wr.heap.size 0 (.slice U Lu cu)
                refine Td.named (fun W => W0.grownBy W none ∧ Row W wr.heap.size 25 #[.slice U Lu cu, .slice (some ⟨gf, 0, none⟩) 1 1] ∧ RL W U Lu (ofR [] (dotsF G ++ [(nf.d, nf.n)])) ∧ Kp wr.heap.size (W9).heap.size (W9) W ∧ (W9).heap.size ≤ W.heap.size) ⟨gb_new (gb_none HG0t.out HG6.out) k6 Hg.out.size, R6.out.set_ 0 _, rl_beside HU6.out k6 R6.out, (Kp.of HG6.out (fun i e => by cases e) (Nat.le_refl _)).trans (Kp.of k6 (fun i e => by cases e; exact Nat.le_refl _) HG6.out.size), by rw [size_set1]; exact HG6.out.size⟩ ?_
                rintro W7 ⟨hg7, hrow7, hU7, hk7, hs7⟩
                have HW7s := Lib.hid hs7
                clear hs7
                clear k6 s0 s1
                have Hg7 := Lib.hid hg7
                have Hrow7 := Lib.hid hrow7
                have Hk7 := Lib.hid hk7
                have HG07 : Hid (W0.grownBy W7 none) := hg7
                have HSd : Hid (SL W7 U Lu (some ⟨gf, 0, none⟩) 1 (delta ⟨rs, l⟩ dev o)) := by show SL _ _ _ _ _ _; rw [HDe.out]; exact ⟨hU7, HFp.out W7 hk7⟩
                have HS7 : Hid (SL W7 A p B n ⟨rs, l⟩) := Hs.out.keep HG07.out
                have HSSd : Hid (SS (delta ⟨rs, l⟩ dev o)) := delta_ss HMS.out.ss Hnb.out HnotO.out
                obtain ⟨y0, y1, y2, y3, y4, y5⟩ := HC.out W7 HG07.out
                have t0 := hrow7.at_ (i := 0) rfl
                have t1 := hrow7.at_ (i := 1) rfl
                have hLb := HLb.out
                have Hjoin := Lib.hid (refJoin_any A B U ((some ⟨gf, 0, none⟩)) p c n d Lu cu 1 1 ⟨rs, l⟩ (delta ⟨rs, l⟩ dev o) W7 HS7.out HSd.out HMS.out.ss HSSd.out (by omega) (by omega) (by omega) (by omega))
                have hfld : ∀ (a b : Value) (W : World), (Instr.field 25 (.agg #[a, b]) 1).run Tryz.prog W = .ok b W := fun a b W => by kernel_rfl
                clear hg7 hrow7 hU7 hk7 hLb
                obtain ⟨fb, hfb⟩ : ∃ fb, decide (400 < (joinS ⟨rs, l⟩ (delta ⟨rs, l⟩ dev o)).facts.length) = fb := ⟨_, rfl⟩
                have Hfb := Lib.hid hfb
                clear hfb
                go_cut [181] (fun v wx => v = .bool fb ∧ W7.grownBy wx none)
                case first =>
                  as_aux_lemma =>
                  go_wp2_with (go_at_call 35; refine Hjoin.out.mono ?_; rintro e w8 ⟨JA, jn, jc, JB, jm, jd, rfl, hJ, _, _, g8⟩; have HJ8 := Lib.hid hJ; have HG8 := Lib.hid g8; clear hJ g8)
                  go_meet
                  exact ⟨congrArg Value.bool (by rw [← Hfb.out]; exact decide_eq_decide.2 (by have h := HJ8.out.2.1; omega)), HG8.out⟩
                case rest =>
                obtain ⟨rfl, hg8⟩ := hcut
                have HG8 : Hid (W7.grownBy wc none) := hg8
                have HG08 : Hid (W0.grownBy wc none) := gb_none HG07.out hg8
                clear y0 y1 y2 y3 y4 y5 t0 t1 hfld hg8 Hjoin
                cases fb with
                | true =>
                  as_aux_lemma =>
                  have HE : Hid (doS ⟨rs, l⟩ dev o = (none_, 4)) := do_full Hnb.out HnotN.out HnotO.out (of_decide_eq_true Hfb.out)
                  have hR := HR.out.kept HG08.out (by simp)
                  have ee0 := hR.at_ (i := 0) rfl
                  have ee1 := hR.at_ (i := 1) rfl
                  have ee2 := hR.at_ (i := 2) rfl
                  have ff0 := hR.free 0
                  have ff1 := hR.free 1
                  have ff2 := hR.free 2
                  have HRk := Lib.hid hR
                  clear hR
                  go_wp2_with fail
                  have m0 := gb_set1 wc (h0 + 1 + 1) 0 (.slice none 0 0)
                  have m1 := gb_set1 (wc.setCell ⟨h0 + 1 + 1, 0, none⟩ (.slice none 0 0)) (h0 + 1 + 1) 1 (.slice none 0 0)
                  have m2 := gb_set1 ((wc.setCell ⟨h0 + 1 + 1, 0, none⟩ (.slice none 0 0)).setCell ⟨h0 + 1 + 1, 1, none⟩ (.slice none 0 0)) (h0 + 1 + 1) 2 (.int .i64 4)
                  have r0 := HRk.out.set_ 0 (.slice none 0 0)
                  have r1 := r0.set_ 1 (.slice none 0 0)
                  have hh := Hh0.out
                  have hgr := gb_new (gb_new (gb_new (gb_none HG.out HG08.out) m0 (by omega)) m1 (by omega)) m2 (by omega)
                  refine bodyPost_ret (results_cell_row rfl _ _ (h0 + 1 + 1) 80 _ (0, 0) _ rfl (r1.set_ 2 (.int .i64 4)) Tryz.underlying80 rfl (by kernel_rfl)) rfl ?_
                  show DoneIs _ _ _ _ _ _
                  unfold DoneIs
                  rw [HE.out]
                  exact ⟨none, 0, 0, none, 0, 0, rfl, ⟨RL.none _ _, FL.none _ _⟩, Nat.le_refl _, Nat.le_refl _, hgr⟩
                | false =>
                  as_aux_lemma =>
                  have HE : Hid (doS ⟨rs, l⟩ dev o = (delta ⟨rs, l⟩ dev o, 0)) := do_ok Hnb.out HnotN.out HnotO.out (of_decide_eq_false Hfb.out)
                  have hr8 := Hrow7.out.kept HG8.out (by simp)
                  have t0 := hr8.at_ (i := 0) rfl
                  have t1 := hr8.at_ (i := 1) rfl
                  clear hr8
                  have hR := HR.out.kept HG08.out (by simp)
                  have ee0 := hR.at_ (i := 0) rfl
                  have ee1 := hR.at_ (i := 1) rfl
                  have ee2 := hR.at_ (i := 2) rfl
                  have ff0 := hR.free 0
                  have ff1 := hR.free 1
                  have ff2 := hR.free 2
                  have HRk := Lib.hid hR
                  clear hR
                  go_wp2_with fail
                  have m0 := gb_set1 wc (h0 + 1 + 1) 0 (.slice U Lu cu)
                  have m1 := gb_set1 (wc.setCell ⟨h0 + 1 + 1, 0, none⟩ (.slice U Lu cu)) (h0 + 1 + 1) 1 (.slice (some ⟨gf, 0, none⟩) 1 1)
                  have m2 := gb_set1 ((wc.setCell ⟨h0 + 1 + 1, 0, none⟩ (.slice U Lu cu)).setCell ⟨h0 + 1 + 1, 1, none⟩ (.slice (some ⟨gf, 0, none⟩) 1 1)) (h0 + 1 + 1) 2 (.int .i64 0)
                  have r0 := HRk.out.set_ 0 (.slice U Lu cu)
                  have r1 := r0.set_ 1 (.slice (some ⟨gf, 0, none⟩) 1 1)
                  have hh := Hh0.out
                  have hlo : ∀ i, some (h0 + 1 + 1) = some i → i ≤ wr.heap.size := fun i e => by cases e; have h1 := HR.out.lt; have h2 := Hg.out.size; omega
                  have hgr := gb_new (gb_new (gb_new (gb_none HG.out HG08.out) m0 (by omega)) m1 (by omega)) m2 (by omega)
                  refine bodyPost_ret (results_cell_row rfl _ _ (h0 + 1 + 1) 80 _ (0, 0) _ rfl (r1.set_ 2 (.int .i64 0)) Tryz.underlying80 rfl (by kernel_rfl)) rfl ?_
                  show DoneIs _ _ _ _ _ _
                  unfold DoneIs
                  rw [HE.out]
                  exact ⟨U, Lu, cu, (some ⟨gf, 0, none⟩), 1, 1, rfl, ⟨rl_beside3 (rl_beside3 (rl_beside3 (HSd.out.1.keep HG8.out) m0 HRk.out) m1 r0) m2 r1, (by rw [HDe.out]; exact HFp.out _ ((((Hk7.out.trans (Kp.of HG8.out (fun i e => by cases e) HW7s.out)).trans (Kp.of m0 hlo (Nat.le_trans HW7s.out HG8.out.size))).trans (Kp.of m1 hlo (by rw [size_set1]; exact Nat.le_trans HW7s.out HG8.out.size))).trans (Kp.of m2 hlo (by rw [size_set1, size_set1]; exact Nat.le_trans HW7s.out HG8.out.size))))⟩, Hcu6.out, Nat.le_refl _, hgr⟩
end Go.Proofs.YthijiefopcnclaaGreatDoor.Dt
