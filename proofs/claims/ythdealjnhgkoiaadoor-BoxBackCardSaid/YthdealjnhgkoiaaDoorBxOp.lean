/- box.Open: what it answers, whatever it is given. -/
import Derived.Test.YthdealjnhgkoiaaDoorBxOpened
import Derived.Test.YthdealjnhgkoiaaDoorBxXorL
namespace Go.Proofs.YthdealjnhgkoiaaDoor.Bx
open Go.RowKit Wd Mm

theorem openB_bad {key nonce ad s : ByteArray} (h : ¬ (key.size = 64 ∧ nonce.size = 12)) : openB key nonce ad s = none := if_neg fun h2 => h ⟨h2.1, h2.2.1⟩
theorem openB_short {key nonce ad s : ByteArray} (h : s.size < 16) : openB key nonce ad s = none := if_neg fun h2 => by omega
theorem openB_long {key nonce ad s : ByteArray} (h : 1048592 < s.size) : openB key nonce ad s = none := if_neg fun h2 => by omega
theorem openB_fits {key nonce ad s : ByteArray} {m : Nat} (hk : key.size = 64) (hn : nonce.size = 12) (hs : s.size = m + 16) (hm : m ≤ 1048576) :
    openB key nonce ad s = if eqB (s.extract m s.size) (tagB key nonce ad (s.extract 0 m)) = true then some (xorB key nonce (s.extract 0 m)) else none := by
  have e : s.size - 16 = m := by omega
  unfold openB eqB
  rw [e]
  by_cases h : s.extract m s.size = tagB key nonce ad (s.extract 0 m)
  · rw [if_pos ⟨hk, hn, by omega, hm, h⟩, if_pos (decide_eq_true h)]
  · rw [if_neg (fun h2 => h h2.2.2.2.2), if_neg (by rw [decide_eq_true_eq]; exact h)]

theorem opened_any (key nonce ad s : ByteArray) (w : World) (ha : ad.size ≤ 549755813888) (hs : s.size ≤ 9223372036854775807) (hT : Tabs w) (hE : BErrs w) :
    Calls Tryd.prog 16 #[.string key, .string nonce, .string ad, .string s] w (OpenedIs (openB key nonce ad s) w) := by
  by_cases h : key.size = 64 ∧ nonce.size = 12
  · by_cases h1 : s.size < 16
    · refine (opened_short key nonce ad s w h.1 h.2 h1 hE).mono ?_
      rintro e w' ⟨p, n, a, c, t, he, hb, hg⟩
      exact ⟨.inr ⟨openB_short h1, p, n, a, c, t, he, hb⟩, hg⟩
    · by_cases h2 : 1048592 < s.size
      · refine (opened_long key nonce ad s w h.1 h.2 h2 hs hE).mono ?_
        rintro e w' ⟨p, n, a, c, t, he, hb, hg⟩
        exact ⟨.inr ⟨openB_long h2, p, n, a, c, t, he, hb⟩, hg⟩
      · obtain ⟨m, hm⟩ : ∃ m, s.size = m + 16 := ⟨s.size - 16, by omega⟩
        exact opened_fits key nonce ad s m w h.1 h.2 hm (by omega) ha hT hE _ rfl _ (openB_fits h.1 h.2 hm (by omega))
  · refine (opened_bad key nonce ad s w h hE).mono ?_
    rintro e w' ⟨p, n, a, c, t, he, hb, hg⟩
    exact ⟨.inr ⟨openB_bad h, p, n, a, c, t, he, hb⟩, hg⟩

theorem open_any (key nonce ad s : ByteArray) (w : World) (ha : ad.size ≤ 549755813888) (hs : s.size ≤ 9223372036854775807) (hT : Tabs w) (hE : BErrs w) :
    Calls Tryd.prog 10 #[.string key, .string nonce, .string ad, .string s] w fun e w' => e = .returned (.tuple #[.string (openS key nonce ad s), .bool (openB key nonce ad s).isSome]) ∧ w.grownBy w' none := by
  have Hop := Lib.hid (opened_any key nonce ad s w ha hs hT hE)
  unfold openS
  generalize openB key nonce ad s = r at *
  go_enter Tryd.func10, Tryd.ntmps10
  go_wp2_with fail
  refine Hop.out.mono ?_
  rintro e w1 ⟨⟨p, rfl, rfl⟩ | ⟨rfl, p, n, a, c, t, rfl, hb⟩, hg⟩
  · go_wp2_with fail
    refine (reason_nil _ (hE.keep hg)).mono ?_
    rintro e w2 ⟨rfl, rfl⟩
    go_wp2_with fail
    refine bodyPost_ret (v := .tuple #[.string p, .bool true]) (by simp [results, Tryd.results10, go_sem]) rfl ?_
    exact ⟨rfl, hg⟩
  · have Hr := Lib.hid (reason_some p n a c t w1 hb (hE.keep hg))
    clear hb
    unfold refV at *
    go_wp2_with fail
    refine Hr.out.mono ?_
    rintro e w2 ⟨t, v, rfl, g2⟩
    go_wp2_with fail
    refine bodyPost_ret (v := .tuple #[.string ⟨#[]⟩, .bool false]) (by simp [results, Tryd.results10, go_sem]) rfl ?_
    exact ⟨rfl, gb_none hg g2⟩

theorem seal_any (key nonce ad plain : ByteArray) (w : World) (ha : ad.size ≤ 549755813888) (hT : Tabs w) (hE : BErrs w) :
    Calls Tryd.prog 12 #[.string key, .string nonce, .string ad, .string plain] w fun e w' => e = .returned (.string (sealB key nonce ad plain)) ∧ w.grownBy w' none := by
  by_cases h : key.size = 64 ∧ nonce.size = 12
  · by_cases hp : plain.size ≤ 1048576
    · rw [sealB, if_pos ⟨h.1, h.2, hp⟩]
      exact seal_yes key nonce ad plain w h.1 h.2 hp ha (by rw [xorB_size key nonce plain h.1 h.2 hp]; exact hp) hT
    · rw [sealB, if_neg (fun h2 => hp h2.2.2)]
      exact seal_long key nonce ad plain w h.1 h.2 (by omega)
  · rw [sealB, if_neg (fun h2 => h ⟨h2.1, h2.2.1⟩)]
    exact seal_no key nonce ad plain w h hE
end Go.Proofs.YthdealjnhgkoiaaDoor.Bx
