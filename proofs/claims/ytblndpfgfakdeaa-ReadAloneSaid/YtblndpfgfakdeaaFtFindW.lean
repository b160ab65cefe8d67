/- Find, the program's and the document's. -/
import Derived.Test.YtblndpfgfakdeaaFtLeaf
import Derived.Test.YtblndpfgfakdeaaFtFound
import Derived.Laws.AppendOwn
import Derived.Deep.AppendLies
import Derived.Deep.RegionHeld3
import Derived.Laws.OwnMore
namespace Go.Proofs.Ytblndpfgfakdeaa.Dt
open Go Go.RowKit Go.Proofs.Ytblndpfgfakdeaa.Mm Go.Proofs.Ytblndpfgfakdeaa.Td

theorem fact_inf : (Try.prog.info? 37).map (fun i => (i.zero, i.size, i.bytes)) = some (some (.agg #[.int .i64 0, .int .i64 0, .string ⟨#[]⟩, .int .i64 0, .string ⟨#[]⟩, .int .i64 0]), 6, 64) := by kernel_rfl
theorem own_far6 {w : World} {B : Nat} {e : TypeId} {v : Value} {n : Nat} {xs : List Value} (h : w.ownsRow B e 6 v n xs) : ∀ i, v.ownBlock = some i → B ≤ i := fun i hi => by
  rcases h.2 with ⟨rfl, _⟩ | ⟨g, cap, cur, rfl, hB, _⟩
  · simp [Value.ownBlock] at hi
  · simp [Value.ownBlock] at hi; omega
theorem info_parts6 {i : Option TypeInfo} {z : Value} {s b : Nat} (h : i.map (fun i => (i.zero, i.size, i.bytes)) = some (some z, s, b)) : ∃ j, i = some j ∧ j.zero = some z ∧ j.size = s ∧ j.bytes = b := by
  cases i with
  | none => simp at h
  | some j => simp only [Option.map_some, Option.some.injEq, Prod.mk.injEq] at h; exact ⟨j, rfl, h⟩
theorem own_slice6 {w : World} {B n : Nat} {t : TypeId} {v : Value} {xs : List Value} (h : w.ownsRow B t 6 v n xs) : ∃ A c, v = .slice A n c := by
  rcases h.2 with ⟨rfl, h0⟩ | ⟨g, cap, cur, rfl, _⟩
  · exact ⟨none, 0, by rw [h0]⟩
  · exact ⟨_, cap, rfl⟩

set_option maxHeartbeats 16000000 in
set_option maxRecDepth 100000 in
theorem pFind_any (A B : Option Addr) (p c n d : Nat) (s : St) (key : ByteArray) (kind : Int) (w : World) (hs : SL w A p B n s) (hn : n ≤ 100000) :
    Calls Try.prog 18 #[.agg #[.slice A p c, .slice B n d], .string key, .int .i64 kind] w (Facts (findL s.facts key kind) w) := by
  obtain ⟨rs, l⟩ := s
  obtain ⟨W0, hW0⟩ : ∃ W0, w.alloc (.cells #[.slice A p c, .slice B n d] 26) = W0 := ⟨_, rfl⟩
  have G0 : w.grownBy W0 none := by rw [← hW0]; exact gb_alloc (gb_refl _ _) _
  have hr0 : Row W0 w.heap.size 26 #[.slice A p c, .slice B n d] := by rw [← hW0]; exact Row.new _ _ _
  have HC : Hid (∀ W, W0.grownBy W none → W.cell? ⟨w.heap.size, 0, none⟩ = some (.slice A p c) ∧ W.cell? ⟨w.heap.size, 1, none⟩ = some (.slice B n d)) :=
    fun W hW => ⟨(hr0.kept hW (by simp)).at_ (i := 0) rfl, (hr0.kept hW (by simp)).at_ (i := 1) rfl⟩
  have Hl := Lib.hid (hs.keep G0).2
  have HG := Lib.hid G0
  obtain ⟨B0, hB0⟩ : ∃ B0, W0.heap.size = B0 := ⟨_, rfl⟩
  have HB0 := Lib.hid hB0
  have Hn := Lib.hid hn
  obtain ⟨z0, z1⟩ := HC.out W0 (gb_refl _ _)
  obtain ⟨i0, hi0, hz0, hz1, hz2⟩ := info_parts6 fact_inf
  have Hi0 := Lib.hid hi0
  have Hz0 := Lib.hid hz0
  have Hz1 := Lib.hid hz1
  have Hz2 := Lib.hid hz2
  have Hnil : Hid (W0.ownsRow B0 37 6 (.slice none 0 0) 0 (fv [])) := World.ownsRow_nil _ _ _ _
  clear hr0 hs G0 hB0 hi0 hz0 hz1 hz2
  go_enter Try.func18, Try.ntmps18
  go_upto_region 1 with fail
  clear hW0
  go_wp2_with fail
  go_loopw [13, 7] (fun i v wr => ∃ (k : Nat) (L : List Fc), k ≤ n ∧ i = .int .i64 k ∧ Hid (L = findL (l.take k) key kind) ∧ wr.ownsRow B0 37 6 v L.length (fv L) ∧ W0.grownBy wr none) (fun i _ _ => n - (intOf i).toNat)
  case atStart => exact ⟨0, [], Nat.zero_le _, rfl, by show _ = _; simp [findL], Hnil.out, gb_refl _ _⟩
  case round =>
    obtain ⟨k, L, hk, rfl, HL0, hown, hg⟩ := hrel
    obtain ⟨y0, y1⟩ := HC.out wr hg
    obtain ⟨N, hN⟩ : ∃ N, L.length = N := ⟨_, rfl⟩
    obtain ⟨A2, c2, hv, hfl, hle⟩ := own_fl hown rfl
    subst hv
    have hNn : N ≤ n := by rw [← hN, HL0.out]; exact Nat.le_trans (find_len _ _ _) (by rw [List.length_take, Hl.out.1]; exact Nat.min_le_right _ _)
    rw [hN] at hown hfl hle ⊢
    have HN := Lib.hid hN
    have Hown := Lib.hid hown
    have Hfl := Lib.hid hfl
    have Hle := Lib.hid hle
    by_cases hlt : k < n
    · have d1 : decide (k < n) = true := decide_eq_true hlt
      have d2 : decide ((k : Int) < (n : Int)) = true := decide_eq_true (by omega)
      have bk : (k : Int) < (n : Int) := by omega
      obtain ⟨g, o, rfl, hgl, hcc⟩ := (Hl.out.keep hg).2 (by omega)
      obtain ⟨x, hx⟩ : ∃ x, l[k]? = some x := ⟨_, List.getElem?_eq_getElem (by rw [Hl.out.1]; exact hlt)⟩
      obtain ⟨h0, h1, h2, h3, h4, h5⟩ := hcc k x hx
      have hmore := find_more hx key kind
      rw [← HL0.out] at hmore
      have Hmore := Lib.hid hmore
      have hsz := hg.size
      have Hb1 : Hid (N + 1 ≤ maxLen) := by show _ ≤ _; have := Hn.out; simp only [maxLen]; omega
      have Hb2 : Hid ((N + 1) * 64 ≤ 140737488355328) := by show _ ≤ _; have := Hn.out; omega
      have Hb3 : Hid (B0 ≤ ((wr.alloc (.cells #[.int .i64 x.d, .int .i64 x.n, .string x.key, .int .i64 x.kind, .string x.item, .int .i64 x.v] 37)).alloc (.cells #[.int .i64 x.d, .int .i64 x.n, .string x.key, .int .i64 x.kind, .string x.item, .int .i64 x.v] 37)).heap.size) := by show _ ≤ _; have := HB0.out; rw [World.size_alloc, World.size_alloc]; omega
      have Hga := Lib.hid (gb_alloc (gb_alloc hg (.cells #[.int .i64 x.d, .int .i64 x.n, .string x.key, .int .i64 x.kind, .string x.item, .int .i64 x.v] 37)) (.cells #[.int .i64 x.d, .int .i64 x.n, .string x.key, .int .i64 x.kind, .string x.item, .int .i64 x.v] 37))
      have Hgb := Lib.hid (gb_alloc hg (.cells #[.int .i64 x.d, .int .i64 x.n, .string x.key, .int .i64 x.kind, .string x.item, .int .i64 x.v] 37))
      have Hown1 : Hid ((wr.alloc (.cells #[.int .i64 x.d, .int .i64 x.n, .string x.key, .int .i64 x.kind, .string x.item, .int .i64 x.v] 37)).ownsRow B0 37 6 (.slice A2 N c2) N (fv L)) := hown.alloc _
      have Hown2 : Hid (((wr.alloc (.cells #[.int .i64 x.d, .int .i64 x.n, .string x.key, .int .i64 x.kind, .string x.item, .int .i64 x.v] 37)).alloc (.cells #[.int .i64 x.d, .int .i64 x.n, .string x.key, .int .i64 x.kind, .string x.item, .int .i64 x.v] 37)).ownsRow B0 37 6 (.slice A2 N c2) N (fv L)) := (hown.alloc _).alloc _
      clear hcc hx hgl hg hown hfl hle hmore hN hsz hNn
      by_cases hkey : x.key = key
      · have t1 := str_eq hkey
        by_cases hk0 : kind = 0
        · have t2 : (kind == 0) = true := by rw [hk0]; rfl
          have HL : Hid (L ++ [x] = findL (l.take (k + 1)) key kind) := by show _ = _; rw [Hmore.out, if_pos ⟨hkey, .inl hk0⟩]
          clear hkey hk0
          go_wp2_with (at_builtin; go_must (refine wpList_append_own _ rfl (.tmp 31) (.tmp 33) 24 rfl B0 37 i0 (.agg #[.int .i64 0, .int .i64 0, .string ⟨#[]⟩, .int .i64 0, .string ⟨#[]⟩, .int .i64 0]) 6 64 Try.underlying24 Hi0.out Hz0.out Hz1.out Hz2.out rfl (by decide) _ N _ rfl Hown2.out ⟨wr.heap.size + 1, 0, none⟩ 1 1 (fv1 x) rfl rfl (by have h := World.news_of_block (cs := #[.int .i64 x.d, .int .i64 x.n, .string x.key, .int .i64 x.kind, .string x.item, .int .i64 x.v]) (t := 37) (fr := (0, 0)) (heap_alloc_new (wr.alloc (.cells #[.int .i64 x.d, .int .i64 x.n, .string x.key, .int .i64 x.kind, .string x.item, .int .i64 x.v] 37)) (.cells #[.int .i64 x.d, .int .i64 x.n, .string x.key, .int .i64 x.kind, .string x.item, .int .i64 x.v] 37)); rwa [World.size_alloc] at h) (fv1_one x) Hb1.out Hb2.out Hb3.out ?_); intro v1 w1 own1 grow1 _; have Own1 := Lib.hid own1; have Grow1 := Lib.hid grow1; clear own1 grow1; obtain ⟨A1, c1, hv1⟩ := own_slice6 Own1.out; subst hv1)
          go_roundw
          case rel =>
            refine ⟨k + 1, L ++ [x], by omega, by go_num, ?_, ?_, ?_⟩
            · exact HL.out
            · rw [fv_append, List.length_append, HN.out]
              have h := Own1.out
              rwa [show fv [x] = fv1 x from List.append_nil _]
            · exact gb_step Hga.out Grow1.out (fun i e => .inr (by rw [HB0.out]; exact own_far6 Hown2.out i e))
          case measure => simp [intOf]; omega
        · have t2 : (kind == 0) = false := by rw [beq_eq_false_iff_ne]; exact hk0
          by_cases hkk : x.kind = kind
          · have t3 : (kind == x.kind) = true := by rw [hkk]; simp
            have HL : Hid (L ++ [x] = findL (l.take (k + 1)) key kind) := by show _ = _; rw [Hmore.out, if_pos ⟨hkey, .inr hkk⟩]
            clear hkey hk0 hkk
            go_wp2_with (at_builtin; go_must (refine wpList_append_own _ rfl (.tmp 31) (.tmp 33) 24 rfl B0 37 i0 (.agg #[.int .i64 0, .int .i64 0, .string ⟨#[]⟩, .int .i64 0, .string ⟨#[]⟩, .int .i64 0]) 6 64 Try.underlying24 Hi0.out Hz0.out Hz1.out Hz2.out rfl (by decide) _ N _ rfl Hown2.out ⟨wr.heap.size + 1, 0, none⟩ 1 1 (fv1 x) rfl rfl (by have h := World.news_of_block (cs := #[.int .i64 x.d, .int .i64 x.n, .string x.key, .int .i64 x.kind, .string x.item, .int .i64 x.v]) (t := 37) (fr := (0, 0)) (heap_alloc_new (wr.alloc (.cells #[.int .i64 x.d, .int .i64 x.n, .string x.key, .int .i64 x.kind, .string x.item, .int .i64 x.v] 37)) (.cells #[.int .i64 x.d, .int .i64 x.n, .string x.key, .int .i64 x.kind, .string x.item, .int .i64 x.v] 37)); rwa [World.size_alloc] at h) (fv1_one x) Hb1.out Hb2.out Hb3.out ?_); intro v1 w1 own1 grow1 _; have Own1 := Lib.hid own1; have Grow1 := Lib.hid grow1; clear own1 grow1; obtain ⟨A1, c1, hv1⟩ := own_slice6 Own1.out; subst hv1)
            go_roundw
            case rel =>
              refine ⟨k + 1, L ++ [x], by omega, by go_num, ?_, ?_, ?_⟩
              · exact HL.out
              · rw [fv_append, List.length_append, HN.out]
                have h := Own1.out
                rwa [show fv [x] = fv1 x from List.append_nil _]
              · exact gb_step Hga.out Grow1.out (fun i e => .inr (by rw [HB0.out]; exact own_far6 Hown2.out i e))
            case measure => simp [intOf]; omega
          · have t3 : (kind == x.kind) = false := by rw [beq_eq_false_iff_ne]; exact fun h => hkk h.symm
            have HL : Hid (L = findL (l.take (k + 1)) key kind) := by show _ = _; rw [Hmore.out, if_neg (fun h => h.2.elim hk0 hkk)]
            clear hkey hk0 hkk
            go_wp2_with fail
            go_roundw
            case rel => exact ⟨k + 1, L, by omega, by go_num, HL.out, by rw [HN.out]; exact Hown1.out, Hgb.out⟩
            case measure => simp [intOf]; omega
      · have t1 := str_ne hkey
        have HL : Hid (L = findL (l.take (k + 1)) key kind) := by show _ = _; rw [Hmore.out, if_neg (fun h => hkey h.1)]
        clear hkey
        go_wp2_with fail
        go_roundw
        case rel => exact ⟨k + 1, L, by omega, by go_num, HL.out, by rw [HN.out]; exact Hown1.out, Hgb.out⟩
        case measure => simp [intOf]; omega
    · have hkn : k = n := by omega
      subst hkn
      have d1 : decide (k < k) = false := by simp
      have d2 : decide ((k : Int) < (k : Int)) = false := by simp
      have He : Hid (findL l key kind = L) := by
        show _ = _
        rw [HL0.out, List.take_of_length_le (by rw [Hl.out.1]; exact Nat.le_refl _)]
      have Hend := Lib.hid (gb_none HG.out hg)
      clear hown hfl hle hg hN hNn hlt
      go_wp2_with fail
      go_ret
      show Facts (findL l key kind) w _ _
      rw [He.out]
      unfold Facts
      rw [HN.out]
      exact ⟨A2, c2, rfl, Hfl.out, Hle.out, Hend.out⟩

set_option maxHeartbeats 16000000 in
set_option maxRecDepth 100000 in
theorem refFind_any (A B : Option Addr) (p c n d : Nat) (s : St) (key : ByteArray) (kind : Int) (w : World) (hs : SL w A p B n s) (hn : n ≤ 100000) :
    Calls Try.prog 19 #[.agg #[.slice A p c, .slice B n d], .string key, .int .i64 kind] w (Facts (findL s.facts key kind) w) := by
  obtain ⟨rs, l⟩ := s
  obtain ⟨W0, hW0⟩ : ∃ W0, w.alloc (.cells #[.slice A p c, .slice B n d] 26) = W0 := ⟨_, rfl⟩
  have G0 : w.grownBy W0 none := by rw [← hW0]; exact gb_alloc (gb_refl _ _) _
  have hr0 : Row W0 w.heap.size 26 #[.slice A p c, .slice B n d] := by rw [← hW0]; exact Row.new _ _ _
  have HC : Hid (∀ W, W0.grownBy W none → W.cell? ⟨w.heap.size, 0, none⟩ = some (.slice A p c) ∧ W.cell? ⟨w.heap.size, 1, none⟩ = some (.slice B n d)) :=
    fun W hW => ⟨(hr0.kept hW (by simp)).at_ (i := 0) rfl, (hr0.kept hW (by simp)).at_ (i := 1) rfl⟩
  have Hl := Lib.hid (hs.keep G0).2
  have HG := Lib.hid G0
  obtain ⟨B0, hB0⟩ : ∃ B0, W0.heap.size = B0 := ⟨_, rfl⟩
  have HB0 := Lib.hid hB0
  have Hn := Lib.hid hn
  obtain ⟨z0, z1⟩ := HC.out W0 (gb_refl _ _)
  obtain ⟨i0, hi0, hz0, hz1, hz2⟩ := info_parts6 fact_inf
  have Hi0 := Lib.hid hi0
  have Hz0 := Lib.hid hz0
  have Hz1 := Lib.hid hz1
  have Hz2 := Lib.hid hz2
  have Hnil : Hid (W0.ownsRow B0 37 6 (.slice none 0 0) 0 (fv [])) := World.ownsRow_nil _ _ _ _
  clear hr0 hs G0 hB0 hi0 hz0 hz1 hz2
  go_enter Try.func19, Try.ntmps19
  go_upto_region 1 with fail
  clear hW0
  go_wp2_with fail
  go_loopw [8, 7] (fun i v wr => ∃ (k : Nat) (L : List Fc), k ≤ n ∧ i = .int .i64 k ∧ Hid (L = findL (l.take k) key kind) ∧ wr.ownsRow B0 37 6 v L.length (fv L) ∧ W0.grownBy wr none) (fun i _ _ => n - (intOf i).toNat)
  case atStart => exact ⟨0, [], Nat.zero_le _, rfl, by show _ = _; simp [findL], Hnil.out, gb_refl _ _⟩
  case round =>
    obtain ⟨k, L, hk, rfl, HL0, hown, hg⟩ := hrel
    obtain ⟨y0, y1⟩ := HC.out wr hg
    obtain ⟨N, hN⟩ : ∃ N, L.length = N := ⟨_, rfl⟩
    obtain ⟨A2, c2, hv, hfl, hle⟩ := own_fl hown rfl
    subst hv
    have hNn : N ≤ n := by rw [← hN, HL0.out]; exact Nat.le_trans (find_len _ _ _) (by rw [List.length_take, Hl.out.1]; exact Nat.min_le_right _ _)
    rw [hN] at hown hfl hle ⊢
    have HN := Lib.hid hN
    have Hown := Lib.hid hown
    have Hfl := Lib.hid hfl
    have Hle := Lib.hid hle
    by_cases hlt : k < n
    · have d1 : decide (k < n) = true := decide_eq_true hlt
      have d2 : decide ((k : Int) < (n : Int)) = true := decide_eq_true (by omega)
      have bk : (k : Int) < (n : Int) := by omega
      obtain ⟨g, o, rfl, hgl, hcc⟩ := (Hl.out.keep hg).2 (by omega)
      obtain ⟨x, hx⟩ : ∃ x, l[k]? = some x := ⟨_, List.getElem?_eq_getElem (by rw [Hl.out.1]; exact hlt)⟩
      obtain ⟨h0, h1, h2, h3, h4, h5⟩ := hcc k x hx
      have hmore := find_more hx key kind
      rw [← HL0.out] at hmore
      have Hmore := Lib.hid hmore
      have hsz := hg.size
      have Hb1 : Hid (N + 1 ≤ maxLen) := by show _ ≤ _; have := Hn.out; simp only [maxLen]; omega
      have Hb2 : Hid ((N + 1) * 64 ≤ 140737488355328) := by show _ ≤ _; have := Hn.out; omega
      have Hb3 : Hid (B0 ≤ (wr.alloc (.cells #[.int .i64 x.d, .int .i64 x.n, .string x.key, .int .i64 x.kind, .string x.item, .int .i64 x.v] 37)).heap.size) := by show _ ≤ _; have := HB0.out; rw [World.size_alloc]; omega
      have Hga := Lib.hid (gb_alloc hg (.cells #[.int .i64 x.d, .int .i64 x.n, .string x.key, .int .i64 x.kind, .string x.item, .int .i64 x.v] 37))
      have Hgb := Lib.hid (hg)
      have Hown1 : Hid (wr.ownsRow B0 37 6 (.slice A2 N c2) N (fv L)) := hown
      have Hown2 : Hid ((wr.alloc (.cells #[.int .i64 x.d, .int .i64 x.n, .string x.key, .int .i64 x.kind, .string x.item, .int .i64 x.v] 37)).ownsRow B0 37 6 (.slice A2 N c2) N (fv L)) := hown.alloc _
      clear hcc hx hgl hg hown hfl hle hmore hN hsz hNn
      by_cases hkey : x.key = key
      · have t1 := str_eq hkey
        by_cases hk0 : kind = 0
        · have t2 : (kind == 0) = true := by rw [hk0]; rfl
          have HL : Hid (L ++ [x] = findL (l.take (k + 1)) key kind) := by show _ = _; rw [Hmore.out, if_pos ⟨hkey, .inl hk0⟩]
          clear hkey hk0
          go_wp2_with (at_builtin; go_must (refine wpList_append_own _ rfl (.tmp 38) (.tmp 44) 24 rfl B0 37 i0 (.agg #[.int .i64 0, .int .i64 0, .string ⟨#[]⟩, .int .i64 0, .string ⟨#[]⟩, .int .i64 0]) 6 64 Try.underlying24 Hi0.out Hz0.out Hz1.out Hz2.out rfl (by decide) _ N _ rfl Hown2.out ⟨wr.heap.size, 0, none⟩ 1 1 (fv1 x) rfl rfl (by have h := World.news_of_block (cs := #[.int .i64 x.d, .int .i64 x.n, .string x.key, .int .i64 x.kind, .string x.item, .int .i64 x.v]) (t := 37) (fr := (0, 0)) (heap_alloc_new wr (.cells #[.int .i64 x.d, .int .i64 x.n, .string x.key, .int .i64 x.kind, .string x.item, .int .i64 x.v] 37)); exact h) (fv1_one x) Hb1.out Hb2.out Hb3.out ?_); intro v1 w1 own1 grow1 _; have Own1 := Lib.hid own1; have Grow1 := Lib.hid grow1; clear own1 grow1; obtain ⟨A1, c1, hv1⟩ := own_slice6 Own1.out; subst hv1)
          go_roundw
          case rel =>
            refine ⟨k + 1, L ++ [x], by omega, by go_num, ?_, ?_, ?_⟩
            · exact HL.out
            · rw [fv_append, List.length_append, HN.out]
              have h := Own1.out
              rwa [show fv [x] = fv1 x from List.append_nil _]
            · exact gb_step Hga.out Grow1.out (fun i e => .inr (by rw [HB0.out]; exact own_far6 Hown2.out i e))
          case measure => simp [intOf]; omega
        · have t2 : (kind == 0) = false := by rw [beq_eq_false_iff_ne]; exact hk0
          by_cases hkk : x.kind = kind
          · have t3 : (x.kind == kind) = true := by rw [hkk]; simp
            have HL : Hid (L ++ [x] = findL (l.take (k + 1)) key kind) := by show _ = _; rw [Hmore.out, if_pos ⟨hkey, .inr hkk⟩]
            clear hkey hk0 hkk
            go_wp2_with (at_builtin; go_must (refine wpList_append_own _ rfl (.tmp 38) (.tmp 44) 24 rfl B0 37 i0 (.agg #[.int .i64 0, .int .i64 0, .string ⟨#[]⟩, .int .i64 0, .string ⟨#[]⟩, .int .i64 0]) 6 64 Try.underlying24 Hi0.out Hz0.out Hz1.out Hz2.out rfl (by decide) _ N _ rfl Hown2.out ⟨wr.heap.size, 0, none⟩ 1 1 (fv1 x) rfl rfl (by have h := World.news_of_block (cs := #[.int .i64 x.d, .int .i64 x.n, .string x.key, .int .i64 x.kind, .string x.item, .int .i64 x.v]) (t := 37) (fr := (0, 0)) (heap_alloc_new wr (.cells #[.int .i64 x.d, .int .i64 x.n, .string x.key, .int .i64 x.kind, .string x.item, .int .i64 x.v] 37)); exact h) (fv1_one x) Hb1.out Hb2.out Hb3.out ?_); intro v1 w1 own1 grow1 _; have Own1 := Lib.hid own1; have Grow1 := Lib.hid grow1; clear own1 grow1; obtain ⟨A1, c1, hv1⟩ := own_slice6 Own1.out; subst hv1)
            go_roundw
            case rel =>
              refine ⟨k + 1, L ++ [x], by omega, by go_num, ?_, ?_, ?_⟩
              · exact HL.out
              · rw [fv_append, List.length_append, HN.out]
                have h := Own1.out
                rwa [show fv [x] = fv1 x from List.append_nil _]
              · exact gb_step Hga.out Grow1.out (fun i e => .inr (by rw [HB0.out]; exact own_far6 Hown2.out i e))
            case measure => simp [intOf]; omega
          · have t3 : (x.kind == kind) = false := by rw [beq_eq_false_iff_ne]; exact hkk
            have HL : Hid (L = findL (l.take (k + 1)) key kind) := by show _ = _; rw [Hmore.out, if_neg (fun h => h.2.elim hk0 hkk)]
            clear hkey hk0 hkk
            go_wp2_with fail
            go_roundw
            case rel => exact ⟨k + 1, L, by omega, by go_num, HL.out, by rw [HN.out]; exact Hown1.out, Hgb.out⟩
            case measure => simp [intOf]; omega
      · have t1 := str_ne hkey
        have HL : Hid (L = findL (l.take (k + 1)) key kind) := by show _ = _; rw [Hmore.out, if_neg (fun h => hkey h.1)]
        clear hkey
        go_wp2_with fail
        go_roundw
        case rel => exact ⟨k + 1, L, by omega, by go_num, HL.out, by rw [HN.out]; exact Hown1.out, Hgb.out⟩
        case measure => simp [intOf]; omega
    · have hkn : k = n := by omega
      subst hkn
      have d1 : decide (k < k) = false := by simp
      have d2 : decide ((k : Int) < (k : Int)) = false := by simp
      have He : Hid (findL l key kind = L) := by
        show _ = _
        rw [HL0.out, List.take_of_length_le (by rw [Hl.out.1]; exact Nat.le_refl _)]
      have Hend := Lib.hid (gb_none HG.out hg)
      clear hown hfl hle hg hN hNn hlt
      go_wp2_with fail
      go_ret
      show Facts (findL l key kind) w _ _
      rw [He.out]
      unfold Facts
      rw [HN.out]
      exact ⟨A2, c2, rfl, Hfl.out, Hle.out, Hend.out⟩
end Go.Proofs.Ytblndpfgfakdeaa.Dt
