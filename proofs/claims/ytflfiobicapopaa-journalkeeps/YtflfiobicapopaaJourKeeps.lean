/- JournalKeeps, walked. -/
import Derived.Test.YtflfiobicapopaaJourBehind
namespace Go.Proofs.Ytflfiobicapopaa
open Go.RowKit

/-- What Append, or Switch, comes to, whatever kills. -/
def Out (A B : AD) (h : HeadD) (l : List (List (List UInt8))) (rows : List (List UInt8)) (turn : Bool) (E : Int) (h2 : HeadD) : Prop :=
  B.cap = A.cap ∧
  ((E = 0 ∧ (h2.s ≤ h.s + 1 ∧ h2.e = h.e) ∧ Run B h2 (bhD l rows turn)) ∨ ((E = 5 ∨ E = 34 ∨ E = 31) ∧ (h2.s ≤ h.s + 1 ∧ h2.e = h.e) ∧ Run B h2 l) ∨
   (E = 3 ∧ B.dead = true ∧ Back B fun h' l' => (h'.s ≤ h.s + 1 ∧ h'.e = h.e) ∧ (l' = l ∨ l' = bhD l rows turn)))
section
variable {A B : AD} {h h2 : HeadD} {l : List (List (List UInt8))} {rows : List (List UInt8)} {E : Int}
theorem bhD_len (l : List (List (List UInt8))) (rows : List (List UInt8)) (turn : Bool) : (bhD l rows turn).length ≤ l.length + 1 := by
  unfold bhD
  split
  · simp
  · rw [List.length_append, List.length_singleton]; omega
theorem bad_or {rows : List (List UInt8)} (hbad : bputErr rows ≠ 0) : bputErr rows = 5 ∨ bputErr rows = 34 ∨ bputErr rows = 31 := .inr (bputErr_or hbad)
theorem Back.mono {S S' : HeadD → List (List (List UInt8)) → Prop} (H : Back B S) (hS : ∀ h l, S h l → S' h l) : Back B S' := fun a b c d => by
  obtain ⟨h', l', h1, h2⟩ := H a b c d
  exact ⟨h', l', hS _ _ h1, h2⟩
theorem out_append (H : Run A h l) (ho : (bputErr rows ≠ 0 ∧ E = bputErr rows ∧ B = A) ∨ (okRows rows ∧ App A B h l rows E)) : Out A B h l rows false E h := by
  have hh : h.s ≤ h.s + 1 ∧ h.e = h.e := ⟨by omega, rfl⟩
  rcases ho with ⟨h1, h2, h3⟩ | ⟨_, P⟩
  · subst h2 h3
    exact ⟨rfl, .inr (.inl ⟨bad_or h1, hh, H⟩)⟩
  · refine ⟨P.cap, ?_⟩
    by_cases hf : A.cap < ((A.x 0).length : Int) + (A.x 1).length + (bput rows).length
    · obtain ⟨e1, e2⟩ := P.full hf
      subst e2
      exact .inr (.inl ⟨.inl e1, hh, H⟩)
    · by_cases e : E = 0
      · exact .inl ⟨e, hh, P.ok e⟩
      · obtain ⟨a, b, c⟩ := P.ko hf e
        exact .inr (.inr ⟨a, b, c.mono fun h' l' ⟨e1, e2⟩ => ⟨by subst e1; exact hh, e2⟩⟩)
theorem out_switch (H : Run A h l) (hb : h.s + 2 < 18446744073709551616) (ho : (bputErr rows ≠ 0 ∧ E = bputErr rows ∧ B = A ∧ h2 = h) ∨ (okRows rows ∧ Swi A B h l rows E h2)) : Out A B h l rows true E h2 := by
  have hn : h.over.next.s ≤ h.s + 1 ∧ h.over.next.e = h.e := ⟨by rw [over_s (by omega)]; omega, rfl⟩
  rcases ho with ⟨h1, h2, h3, h4⟩ | ⟨_, P⟩
  · subst h2 h3 h4
    exact ⟨rfl, .inr (.inl ⟨bad_or h1, ⟨by omega, rfl⟩, H⟩)⟩
  · refine ⟨P.cap, ?_⟩
    by_cases hf : A.cap < ((A.x 0).length : Int) + (A.x 1).length + (bput rows).length
    · obtain ⟨e1, e2, e3⟩ := P.full hf
      subst e2 e3
      exact .inr (.inl ⟨.inl e1, ⟨by omega, rfl⟩, H⟩)
    · by_cases e : E = 0
      · obtain ⟨a, b⟩ := P.ok e
        subst b
        exact .inl ⟨e, hn, a⟩
      · obtain ⟨a, b, c⟩ := P.ko hf e
        refine .inr (.inr ⟨a, b, c.mono fun h' l' hh => ?_⟩)
        rcases hh with ⟨e1, e2⟩ | ⟨e1, e2⟩
        · subst e1 e2; exact ⟨⟨by omega, rfl⟩, .inl rfl⟩
        · subst e1 e2; exact ⟨hn, .inr rfl⟩
end

set_option maxRecDepth 100000 in
set_option maxHeartbeats 16000000 in
theorem journalKeeps_any (ua : Option Addr) (n uc : Nat) (ks : Nat → BlowD) (w : World) (h : BlowsAt w ua n ks) (hn : n ≤ 9223372036854775807) :
    Calls Try.prog 3 #[.slice ua n uc] w fun x w' => x = .returned (.bool true) ∧ Below w.heap.size w w' := by
  have HX := hide h
  clear h
  go_enter Try.func3, Try.ntmps3
  go_wp2_with fail
  go_loopw [3, 23] (fun s i W => ∃ (j : Nat) (t : Int), j ≤ n ∧ i = .int .i64 j ∧ s = .int .i64 t ∧ Below w.heap.size w W) (fun _ i _ => n - (intOf i).toNat)
  case atStart => exact ⟨0, 0, Nat.zero_le _, rfl, rfl, Below.refl _ w⟩
  case round =>
    obtain ⟨j, t, hj, rfl, rfl, hB⟩ := hrel
    have HB := hide hB
    clear hB
    by_cases hlt : j < n
    · obtain ⟨b, o, rfl, hxx⟩ := unhide HX (by omega)
      obtain ⟨hcell, hfit⟩ := hxx j hlt
      obtain ⟨⟨sa, sn, sc, rows, turn, crash, at', part, k0, k1, k2, k3, again, o0, o1, o2, o3⟩, hh⟩ : ∃ h, ks j = h := ⟨_, rfl⟩
      rw [hh] at hcell hfit
      obtain ⟨z0, z1, z2, z3, z4, z5, z6, z7, z8, z9, za, zb, zc, zd⟩ := blow_cells hcell (unhide HB)
      dsimp only at z0 z1 z2 z3 z4 z5 z6 z7 z8 z9 za zb zc zd
      have HR := hide hfit.1
      have HN := hide hfit.2.1
      have HM := hide hfit.2.2.1
      dsimp only at HR HN HM
      have i0 : (0 : Int) ≤ (j : Int) := by omega
      have i1 : (j : Int) < (n : Int) := by omega
      clear hcell hfit hh hxx
      have hblk := heap_alloc_new wr (.cells #[.slice sa sn sc, .bool turn, .bool crash, .int .u8 ((at' : Nat) : Int), .int .u8 ((part : Nat) : Int), .int .i64 k0, .int .i64 k1, .int .i64 k2, .int .i64 k3, .int .u8 ((again : Nat) : Int), .int .i64 o0, .int .i64 o1, .int .i64 o2, .int .i64 o3] 26)
      have HB1 : Hid (Below w.heap.size w (wr.alloc (.cells #[.slice sa sn sc, .bool turn, .bool crash, .int .u8 ((at' : Nat) : Int), .int .u8 ((part : Nat) : Int), .int .i64 k0, .int .i64 k1, .int .i64 k2, .int .i64 k3, .int .u8 ((again : Nat) : Int), .int .i64 o0, .int .i64 o1, .int .i64 o2, .int .i64 o3] 26))) := (unhide HB).alloc (unhide HB).size _
      go_upto_region 5 with fail
      generalize wr.alloc (.cells #[.slice sa sn sc, .bool turn, .bool crash, .int .u8 ((at' : Nat) : Int), .int .u8 ((part : Nat) : Int), .int .i64 k0, .int .i64 k1, .int .i64 k2, .int .i64 k3, .int .u8 ((again : Nat) : Int), .int .i64 o0, .int .i64 o1, .int .i64 o2, .int .i64 o3] 26) = W1 at hblk HB1 ⊢
      generalize wr.heap.size = gb at hblk ⊢
      have c0 : W1.cell? ⟨gb, 0, none⟩ = some (.slice sa sn sc) := cell_of_row _ _ 0 _ _ _ hblk
      have lc0 := Later.cell c0
      have HR1 := hide ((unhide HR).later (unhide HB1))
      clear z0 z1 z2 z3 z4 z5 z6 z7 z8 z9 za zb zc zd HB hblk c0
      have hne : Nonempty (Later W1) := ⟨⟨W1, Below.refl _ _⟩⟩
      refine wp_region_later (by kernel_rfl) ?_
      repeat (go_big_quiet_step ((rename_i q; go_at_call 8; refine (low_bytesW _ rows _ (RowsAt.later (unhide HR1) q.2) (by rw [unhide HN]; exact unhide HM)).mono ?_; rintro e w2 ⟨rfl, hw⟩; exact ⟨rfl, q.same hw⟩)))
      refine wpQuiet_nil ?_
      rintro _ ⟨q, rfl⟩
      have HB2 : Hid (Below w.heap.size w q.1) := (unhide HB1).trans (q.2.mono (unhide HB1).size)
      generalize q.1 = W2 at *
      go_wp2_with fail
      exact ⟨⟨j + 1, _, by omega, by go_num, rfl, unhide HB2⟩, by simp [intOf]; omega⟩
    · have en : n = j := by omega
      subst en
      by_cases h15 : n ≤ 15
      · have hd15 : decide ((n : Int) > 15) = false := decide_eq_false (by omega)
        by_cases h30 : t > 3000
        · have hd30 : decide (t > 3000) = true := decide_eq_true h30
          clear h30
          go_wp2_with fail
          refine (jawake_any _).mono ?_
          rintro x W4 ⟨rfl, hb⟩
          have HB4 := hide ((unhide HB).trans (hb.mono (unhide HB).size))
          clear hb
          go_wp2_with fail
          go_ret
          exact ⟨rfl, unhide HB4⟩
        have hd30 : decide (t > 3000) = false := decide_eq_false h30
        clear h30
        go_upto_region 9 with fail
        clear hd15 hd30
        go_wp2_with fail
        refine (made_any (unhide HB) 4000 (by decide) (by decide)).mono ?_
        rintro x W1 ⟨p, g0, A0, rfl, hJ, hc, hp⟩
        have HJ0 := hide hJ
        have HC0 := hide hc
        clear hJ hc hp HB
        go_wp2_with fail
        go_loopw [7, 9, 54] (fun jv wv i W => ∃ (j : Nat) (g : Nat) (A : AD) (h : HeadD) (l : List (List (List UInt8))) (a : Option Addr) (c : Nat), j ≤ n ∧ i = .int .i64 j ∧ jv = .pointer (some ⟨g, 0, none⟩) ∧ wv = .slice a l.length c ∧ Jr w W [(.slice a l.length c, Thing.bats l)] [] g p A h l ∧ A.calls = -1 ∧ h.s ≤ 2 + 3 * j ∧ h.e ≤ 1 + 2 * j ∧ l.length ≤ j) (fun _ _ i _ => n - (intOf i).toNat)
        case atStart => exact ⟨0, g0, A0, _, [], none, 0, Nat.zero_le _, rfl, rfl, rfl, ⟨(unhide HJ0).kj.arg (.slice none 0 0) (.bats []) (fun F hF => .inl ⟨⟨none, 0, rfl⟩, rfl⟩), (unhide HJ0).run⟩, unhide HC0, Nat.le_refl _, Nat.le_refl _, Nat.le_refl _⟩
        case round =>
          obtain ⟨j, g, A, h, l, a, c, hj, rfl, rfl, rfl, hJ, hc, hs, he, hl⟩ := hrel
          have HJ := hide hJ
          have HC := hide hc
          have HSE : Hid (h.s ≤ 2 + 3 * j ∧ h.e ≤ 1 + 2 * j ∧ l.length ≤ j ∧ j ≤ n ∧ n ≤ 15) := ⟨hs, he, hl, hj, h15⟩
          clear hJ hc hs he hl HJ0 HC0
          by_cases hlt : j < n
          · obtain ⟨b, o, rfl, hxx⟩ := unhide HX (by omega)
            obtain ⟨hcell, hfit⟩ := hxx j hlt
            obtain ⟨⟨sa, sn, sc, rows, turn, crash, at', part, k0, k1, k2, k3, again, o0, o1, o2, o3⟩, hh⟩ : ∃ h, ks j = h := ⟨_, rfl⟩
            rw [hh] at hcell hfit
            obtain ⟨z0, z1, z2, z3, z4, z5, z6, z7, z8, z9, za, zb, zc, zd⟩ := blow_cells hcell (unhide HJ).kj.bb
            dsimp only at z0 z1 z2 z3 z4 z5 z6 z7 z8 z9 za zb zc zd
            have HR := hide hfit.1
            have H256 : Hid (again < 256 ∧ part < 256) := ⟨hfit.2.2.2.2.2, hfit.2.2.2.2.1⟩
            have hat : at' < 256 := hfit.2.2.2.1
            dsimp only at HR
            have i0 : (0 : Int) ≤ (j : Int) := by omega
            have i1 : (j : Int) < (n : Int) := by omega
            clear hcell hfit hh hxx
            have HJ1 := hide ((unhide HJ).new (.cells #[.slice sa sn sc, .bool turn, .bool crash, .int .u8 ((at' : Nat) : Int), .int .u8 ((part : Nat) : Int), .int .i64 k0, .int .i64 k1, .int .i64 k2, .int .i64 k3, .int .u8 ((again : Nat) : Int), .int .i64 o0, .int .i64 o1, .int .i64 o2, .int .i64 o3] 26))
            go_upto_region 16 with fail
            generalize wr.alloc (.cells #[.slice sa sn sc, .bool turn, .bool crash, .int .u8 ((at' : Nat) : Int), .int .u8 ((part : Nat) : Int), .int .i64 k0, .int .i64 k1, .int .i64 k2, .int .i64 k3, .int .u8 ((again : Nat) : Int), .int .i64 o0, .int .i64 o1, .int .i64 o2, .int .i64 o3] 26) = W2 at HJ1 ⊢
            generalize wr.heap.size = gb at HJ1 ⊢
            clear z0 z1 z2 z3 z4 z5 z6 z7 z8 z9 za zb zc zd HJ
            have BL : Hid (∀ W2 L2 A2 HH, Kj w W2 L2 (MJ [(gb, Obj.cells #[.slice sa sn sc, .bool turn, .bool crash, .int .u8 ((at' : Nat) : Int), .int .u8 ((part : Nat) : Int), .int .i64 k0, .int .i64 k1, .int .i64 k2, .int .i64 k3, .int .u8 ((again : Nat) : Int), .int .i64 o0, .int .i64 o1, .int .i64 o2, .int .i64 o3] 26 (0, 0))] g p 66 HH) p A2 → W2.cell? ⟨gb, 0, none⟩ = some (.slice sa sn sc) ∧ W2.cell? ⟨gb, 1, none⟩ = some (.bool turn) ∧ W2.cell? ⟨gb, 2, none⟩ = some (.bool crash) ∧ W2.cell? ⟨gb, 3, none⟩ = some (.int .u8 ((at' : Nat) : Int)) ∧ W2.cell? ⟨gb, 4, none⟩ = some (.int .u8 ((part : Nat) : Int)) ∧ W2.cell? ⟨gb, 5, none⟩ = some (.int .i64 k0) ∧ W2.cell? ⟨gb, 6, none⟩ = some (.int .i64 k1) ∧ W2.cell? ⟨gb, 7, none⟩ = some (.int .i64 k2) ∧ W2.cell? ⟨gb, 8, none⟩ = some (.int .i64 k3) ∧ W2.cell? ⟨gb, 9, none⟩ = some (.int .u8 ((again : Nat) : Int)) ∧ W2.cell? ⟨gb, 10, none⟩ = some (.int .i64 o0) ∧ W2.cell? ⟨gb, 11, none⟩ = some (.int .i64 o1) ∧ W2.cell? ⟨gb, 12, none⟩ = some (.int .i64 o2) ∧ W2.cell? ⟨gb, 13, none⟩ = some (.int .i64 o3)) := fun W2 L2 A2 HH H => H.blow (x := ⟨sa, sn, sc, rows, turn, crash, at', part, k0, k1, k2, k3, again, o0, o1, o2, o3⟩) (t := 26) (List.mem_cons_of_mem _ (List.mem_cons_self ..))
            obtain ⟨z0, z1, z2, z3, z4, z5, z6, z7, z8, z9, za, zb, zc, zd⟩ := unhide BL _ _ _ _ (unhide HJ1).kj
            go_upto_if 59 with fail
            go_cut [] (fun wx => ∃ A1, Jr w wx [(.slice a l.length c, Thing.bats l)] [(gb, Obj.cells #[.slice sa sn sc, .bool turn, .bool crash, .int .u8 ((at' : Nat) : Int), .int .u8 ((part : Nat) : Int), .int .i64 k0, .int .i64 k1, .int .i64 k2, .int .i64 k3, .int .u8 ((again : Nat) : Int), .int .i64 o0, .int .i64 o1, .int .i64 o2, .int .i64 o3] 26 (0, 0))] g p A1 h l)
            case first =>
              cases crash
              case true =>
                go_wp2_with fail
                refine (kjFuse (unhide HJ1).kj _ _ (by omega)).mono ?_
                rintro x W3 ⟨rfl, hk⟩
                have HJ3 := hide (Jr.mk hk ((unhide HJ1).run.fuse _ _))
                clear hk
                go_wp2_with fail
                go_meet
                exact ⟨_, unhide HJ3⟩
              case false =>
                go_wp2_with fail
                go_meet
                exact ⟨_, unhide HJ1⟩
            obtain ⟨A1, hJ⟩ := hcut
            have HJ2 := hide hJ
            clear hJ HJ1 HC z0 z1 z2 z3 z4 z5 z6 z7 z8 z9 za zb zc zd
            generalize wc = W3 at *
            have hfl := head_field1
            go_wp2_with fail
            refine (jrHead (unhide HJ2)).mono ?_
            rintro x W4 ⟨rfl, hJ⟩
            have HJ3 := hide hJ
            obtain ⟨z0, z1, z2, z3, z4, z5, z6, z7, z8, z9, za, zb, zc, zd⟩ := unhide BL _ _ _ _ (unhide HJ3).kj
            clear hJ HJ2
            go_upto_if 73 with fail
            go_cut [13] (fun ev wx => ∃ (E : Int) (A2 : AD) (h2 : HeadD), ev = .int .i64 E ∧ Kj w wx [(.slice a l.length c, Thing.bats l)] (MJ [(gb, Obj.cells #[.slice sa sn sc, .bool turn, .bool crash, .int .u8 ((at' : Nat) : Int), .int .u8 ((part : Nat) : Int), .int .i64 k0, .int .i64 k1, .int .i64 k2, .int .i64 k3, .int .u8 ((again : Nat) : Int), .int .i64 o0, .int .i64 o1, .int .i64 o2, .int .i64 o3] 26 (0, 0))] g p 66 h2) p A2 ∧ Out A1 A2 h l rows turn E h2)
            case first =>
              cases turn
              case true =>
                go_wp2_with fail
                refine (jrSwitch (unhide HJ3) (by have := unhide HSE; omega) _ rows ((unhide HJ3).rowsB (unhide HR))).mono ?_
                rintro x W5 ⟨E, B, h2, rfl, hk, ho⟩
                have HK := hide hk
                have HO := hide (out_switch (unhide HJ3).run (by have := unhide HSE; omega) ho)
                clear hk ho
                go_wp2_with fail
                go_meet
                exact ⟨E, B, h2, rfl, unhide HK, unhide HO⟩
              case false =>
                go_wp2_with fail
                refine (jrAppend (unhide HJ3) _ rows ((unhide HJ3).rowsB (unhide HR))).mono ?_
                rintro x W5 ⟨E, B, rfl, hk, ho⟩
                have HK := hide hk
                have HO := hide (out_append (unhide HJ3).run ho)
                clear hk ho
                go_wp2_with fail
                go_meet
                exact ⟨E, B, h, rfl, unhide HK, unhide HO⟩
            obtain ⟨E, A2, h2, rfl, hk, ho⟩ := hcut
            have HK5 := hide hk
            have HO := hide ho
            clear hk ho HJ3 z0 z1 z2 z3 z4 z5 z6 z7 z8 z9 za zb zc zd
            generalize wc = W5 at *
            go_wp2_with fail
            refine (kjFuse (unhide HK5) (-1) 0 (by decide)).mono ?_
            rintro x W6 ⟨rfl, hk⟩
            have HK6 := hide hk
            obtain ⟨z0, z1, z2, z3, z4, z5, z6, z7, z8, z9, za, zb, zc, zd⟩ := unhide BL _ _ _ _ (unhide HK6)
            clear hk HK5
            go_wp2_with fail
            refine (kjBehind (unhide HK6) a c (List.mem_singleton.2 rfl) (by have := unhide HSE; omega) sa sn sc (unhide HR) turn crash at' part k0 k1 k2 k3 again o0 o1 o2 o3).mono ?_
            rintro x W7 ⟨wa, wd, rfl, hk⟩
            have HK7 := hide hk
            have HBL : Hid ((bhD l rows turn).length ≤ j + 1) := by show _ ≤ _; have := bhD_len l rows turn; have := unhide HSE; omega
            clear hk HK6 z0 z1 z2 z3 z4 z5 z6 z7 z8 z9 za zb zc zd
            rcases unhide HO with ⟨_, (⟨rfl, hb, hR⟩ | ⟨hE, hb, hR⟩ | ⟨rfl, hd, hbk⟩)⟩
            · have HB2 := hide hb
              have HJ7 := hide (Jr.mk (unhide HK7) (hR.fuse (-1) 0))
              have HC7 := hide (fuse_calls hR.live (-1) 0)
              clear hb hR HO HK7
              go_wp2_with fail
              exact ⟨⟨j + 1, g, _, h2, bhD l rows turn, wa, wd, by omega, by go_num, rfl, rfl, (unhide HJ7).noM.lessL (fun q hq => by rw [List.mem_singleton.1 hq]; exact List.mem_cons_self ..), unhide HC7, by have := unhide HB2; have := unhide HSE; omega, by have := unhide HB2; have := unhide HSE; omega, unhide HBL⟩, by simp [intOf]; omega⟩
            · have HB2 := hide hb
              have HJ7 := hide (Jr.mk (unhide HK7) (hR.fuse (-1) 0))
              have HC7 := hide (fuse_calls hR.live (-1) 0)
              clear hb hR HO HK7
              rcases hE with rfl | rfl | rfl
              all_goals
                go_wp2_with fail
                exact ⟨⟨j + 1, g, _, h2, l, a, c, by omega, by go_num, rfl, rfl, (unhide HJ7).noM.lessL (fun q hq => by rw [List.mem_singleton.1 hq]; exact List.mem_cons_of_mem _ (List.mem_cons_self ..)), unhide HC7, by have := unhide HB2; have := unhide HSE; omega, by have := unhide HB2; have := unhide HSE; omega, by have := unhide HSE; omega⟩, by simp [intOf]; omega⟩
            · have hfu : fuD A2 (-1) 0 = A2 := by simp [fuD, hd]
              rw [hfu] at HK7
              have HBK := hide hbk
              obtain ⟨z0, z1, z2, z3, z4, z5, z6, z7, z8, z9, za, zb, zc, zd⟩ := unhide BL _ _ _ _ (unhide HK7)
              clear hfu hd hbk HO
              go_wp2_with fail
              refine (kjCrash (unhide HK7) k0 k1 k2 k3).mono ?_
              rintro x W8 ⟨rfl, hk⟩
              obtain ⟨h', l', ⟨hh, hll⟩, hS, hFr⟩ := unhide HBK k0 k1 k2 k3
              have HK8 := hide hk
              have HS8 := hide hS
              have HF8 := hide hFr
              have HH8 := hide hh
              have HLC := hide hll
              have HLL : Hid (l'.length ≤ j + 1) := by
                show _ ≤ _
                rcases hll with e | e
                · rw [e]; have := unhide HSE; omega
                · rw [e]; exact unhide HBL
              clear hk hS hFr hh hll HK7 HBK z0 z1 z2 z3 z4 z5 z6 z7 z8 z9 za zb zc zd
              obtain ⟨z0, z1, z2, z3, z4, z5, z6, z7, z8, z9, za, zb, zc, zd⟩ := unhide BL _ _ _ _ (unhide HK8)
              go_wp2_with fail
              refine (kjOpened (unhide HK8) (unhide HS8) (unhide HF8) (by have := unhide HH8; have := unhide HSE; omega) (by have := unhide HH8; have := unhide HSE; omega) sa sn sc turn crash at' part k0 k1 k2 k3 again o0 o1 o2 o3 (unhide H256)).mono ?_
              rintro x W9 ⟨B, g2, va, vc, h3, rfl, _, hcalls, hJ, e1, e2, e3⟩
              have HJ9 := hide hJ
              have HC9 := hide hcalls
              have HB9 : Hid (h.e < h3.e ∧ h3.e ≤ h.e + 2 ∧ h3.s ≤ h.s + 3) := ⟨by have := unhide HH8; omega, by have := unhide HH8; omega, by have := unhide HH8; omega⟩
              have HB1 : Hid (l'.length ≤ 140737488355328) := by show _ ≤ _; have := unhide HLL; have := unhide HSE; omega
              have HB3 : Hid (∀ x ∈ l', x.length ≤ 140737488355328) := fun x hx => by have := (hJ.run.okr x hx).1.2; omega
              have hfl := head_field1
              clear hJ hcalls e1 e2 e3 HK8 HS8 HF8 z0 z1 z2 z3 z4 z5 z6 z7 z8 z9 za zb zc zd
              go_wp2_with fail
              refine (low_sameBatches _ _ l' l _ ((unhide HJ9).kj.bat (List.mem_cons_self ..)) ((unhide HJ9).kj.bat (List.mem_cons_of_mem _ (List.mem_cons_of_mem _ (List.mem_cons_self ..)))) (unhide HB1) (unhide HB3)).mono ?_
              rintro x WA ⟨rfl, hb⟩
              by_cases hl1 : l' = l
              · rw [decide_eq_true hl1]
                have HJA := hide ((unhide HJ9).later hb)
                clear hb HJ9 hl1
                have hle : decide (((h3.e : Nat) : Int) ≤ ((h.e : Nat) : Int)) = false := decide_eq_false (by have := unhide HB9; omega)
                have hle2 : decide (h3.e ≤ h.e) = false := decide_eq_false (by have := unhide HB9; omega)
                have hle3 : h.e < h3.e := (unhide HB9).1
                go_wp2_with fail
                refine (jrHead (unhide HJA)).mono ?_
                rintro x WB ⟨rfl, hJ⟩
                have HJB := hide hJ
                clear hJ HJA
                go_wp2_with fail
                exact ⟨⟨j + 1, g2, B, h3, l', va, vc, by omega, by go_num, rfl, rfl, (unhide HJB).noM.lessL (fun q hq => by rw [List.mem_singleton.1 hq]; exact List.mem_cons_self ..), unhide HC9, by have := unhide HB9; have := unhide HSE; omega, by have := unhide HB9; have := unhide HSE; omega, unhide HLL⟩, by simp [intOf]; omega⟩
              · have hl2 : l' = bhD l rows turn := (unhide HLC).resolve_left hl1
                rw [decide_eq_false hl1]
                have HJA0 := hide ((unhide HJ9).later hb)
                have HL2 := hide hl2
                clear hb HJ9 hl1 hl2
                go_wp2_with fail
                refine (low_sameBatches _ _ l' (bhD l rows turn) _ ((unhide HJA0).kj.bat (List.mem_cons_self ..)) ((unhide HJA0).kj.bat (List.mem_cons_of_mem _ (List.mem_cons_self ..))) (unhide HB1) (unhide HB3)).mono ?_
                rintro x WC ⟨rfl, hb⟩
                rw [decide_eq_true (unhide HL2)]
                have HJA := hide ((unhide HJA0).later hb)
                clear hb HJA0
                have hle : decide (((h3.e : Nat) : Int) ≤ ((h.e : Nat) : Int)) = false := decide_eq_false (by have := unhide HB9; omega)
                have hle2 : decide (h3.e ≤ h.e) = false := decide_eq_false (by have := unhide HB9; omega)
                have hle3 : h.e < h3.e := (unhide HB9).1
                go_wp2_with fail
                refine (jrHead (unhide HJA)).mono ?_
                rintro x WB ⟨rfl, hJ⟩
                have HJB := hide hJ
                clear hJ HJA
                go_wp2_with fail
                exact ⟨⟨j + 1, g2, B, h3, l', va, vc, by omega, by go_num, rfl, rfl, (unhide HJB).noM.lessL (fun q hq => by rw [List.mem_singleton.1 hq]; exact List.mem_cons_self ..), unhide HC9, by have := unhide HB9; have := unhide HSE; omega, by have := unhide HB9; have := unhide HSE; omega, unhide HLL⟩, by simp [intOf]; omega⟩
          · have en : n = j := by omega
            subst en
            have HB1 : Hid (l.length ≤ 140737488355328) := by show _ ≤ _; have := unhide HSE; omega
            have HB3 : Hid (∀ x ∈ l, x.length ≤ 140737488355328) := fun x hx => by have := ((unhide HJ).run.okr x hx).1.2; omega
            go_wp2_with fail
            refine (openCalm (unhide HJ).noJ (unhide HJ).run.st (unhide HC) (by have := unhide HSE; omega)).mono ?_
            rintro x W4 ⟨B, k, va, vc, rfl, _, _, hJ⟩
            have HJ4 := hide hJ
            clear hJ HJ HC
            go_wp2_with fail
            refine (low_sameBatches _ _ l l _ ((unhide HJ4).kj.bat (List.mem_cons_self ..)) ((unhide HJ4).kj.bat (List.mem_cons_of_mem _ (List.mem_cons_self ..))) (unhide HB1) (unhide HB3)).mono ?_
            rintro x W5 ⟨rfl, hb⟩
            rw [decide_eq_true (rfl : l = l)]
            have HB5 := hide ((unhide HJ4).later hb).kj.bb
            clear hb HJ4
            go_wp2_with fail
            refine (jawake_any _).mono ?_
            rintro x W6 ⟨rfl, hb⟩
            have HB6 := hide ((unhide HB5).trans (hb.mono (unhide HB5).size))
            clear hb HB5
            go_wp2_with fail
            go_ret
            exact ⟨rfl, unhide HB6⟩
      · have hd15 : decide ((n : Int) > 15) = true := decide_eq_true (by omega)
        go_wp2_with fail
        refine (jawake_any _).mono ?_
        rintro x W4 ⟨rfl, hb⟩
        have HB4 := hide ((unhide HB).trans (hb.mono (unhide HB).size))
        clear hb
        go_wp2_with fail
        go_ret
        exact ⟨rfl, unhide HB4⟩
end Go.Proofs.Ytflfiobicapopaa
