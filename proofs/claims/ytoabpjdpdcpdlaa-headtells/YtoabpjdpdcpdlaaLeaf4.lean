/- What the functions of package disk on one slot do. No statement of the seat is proved here. -/
import Derived.Test.YtoabpjdpdcpdlaaLeaf3
import Derived.Deep.RegionLaw
import Derived.Laws.CopyOwn
namespace Go.Proofs.Ytoabpjdpdcpdlaa
open Go.RowKit

section
variable {w : World} {p : Nat} {D : Nat → Prop} {v : Nat → Value} {A : AD}

theorem infoSlot : (Try.prog.info? 65).map (·.size) = some 32 := by kernel_rfl

theorem drop_all {l : List UInt8} {bs : List UInt8} (h : l.length = 32) (hb : bs.length = 32) : bs ++ l.drop bs.length = bs := by
  rw [List.drop_of_length_le (by omega), List.append_nil]

/-- The same as one step of a region that draws its order. -/
theorem step_copy_mid {P : Program} {ops : Array Oper} {op : Oper} {a : Act} {w : World} {K : Act → World → Prop} {Q : Exit → Act → World → Prop} {E : Prop} (hgd : op.guard = none) (d s : Operand) (dT sT : TypeId)
    (ho : op.op = .call { callee := .builtin .copy, args := #[d, s], argTypes := #[dT, sT] }) (elem : TypeId) (hu : P.underlying dT = some (.slice elem)) (hsz : (P.info? elem).map (·.size) = some 1)
    (b o dLen dCap : Nat) (ad : Addr) (sLen sCap : Nat) (hd : a.eval d = .slice (some ⟨b, o, none⟩) dLen dCap) (hs : a.eval s = .slice (some ad) sLen sCap)
    (cs : List Value) (hn : cs.length = Nat.min sLen dLen) (hsrc : ∀ j u, cs[j]? = some u → w.cell? (ad.add j) = some u) (ht : w.there b o cs.length) (h1 : ∀ u ∈ cs, u.oneCell' = true)
    (h : K (a.put op.dst (goInt cs.length)) (w.setCells b o cs)) :
    if Region.wanted op (yielded ops a.tmps) = true then Oper.wp P op a w K Q else E := by
  have hw : Region.wanted op (yielded ops a.tmps) = true := by simp [Region.wanted, hgd]
  rw [if_pos hw]
  have hrun := run_copy_cells (P := P) w dT sT op.type elem b o dLen dCap ad sLen sCap cs hu hsz hn hsrc (fun j hj => (ht j hj).1) (fun j hj => (ht j hj).2) h1
  unfold Oper.wp
  simp [execOp, ho, resolve, invoke, builtin, hd, hs, hrun, Result.andThen]
  exact h

set_option maxHeartbeats 400000 in
theorem slotSync_any (h : DiskIs w p D v A) (i : Nat) (hi : i < 2) :
    Calls Try.prog 58 #[.pointer (some ⟨p, 6 + 64 * i, none⟩)] w fun e w' => e = .returned (.tuple #[]) ∧ Now D p { A with sf := upd A.sf i (A.sh i) } w w' := by
  have e1 : 6 + 64 * i + 32 = 38 + 64 * i := by omega
  have HR := hide (h.slh i hi)
  have l1 := h.ok.sh i hi
  have HI : Hid ((Try.prog.info? 65).map (·.size) = some ((A.sh i).map bv).length) := by rw [List.length_map, l1]; exact infoSlot
  have HT : Hid (w.there p (6 + 64 * i) ((A.sh i).map bv).toArray.size) := h.there fun j hj => (h.slf i hi).isSome j (by have := h.ok.sf i hi; simp only [List.size_toArray, List.length_map] at hj ⊢; omega)
  have HI2 : Hid ((Try.prog.info? 65).map (·.size) = some ((A.sh i).map bv).toArray.size) := by rw [List.size_toArray]; exact HI
  have HD := hide h
  clear h
  go_enter Try.func58, Try.ntmps58
  go_wp2_with (first
    | refine wpList_load_mid rfl 65 (.tmp 5) rfl p (38 + 64 * i) rfl ((A.sh i).map bv) _ (unhide HR) Try.underlying65 rfl (unhide HI) ?_
    | refine wpList_store_mid rfl 65 (.tmp 8) (.tmp 6) rfl p (6 + 64 * i) ((A.sh i).map bv).toArray rfl rfl (unhide HT) (unhide HI2) (all_oneCell_toArray (bv_one _)) ?_)
  go_end0
  have h2 := (unhide HD).setSafeSlot i hi (A.sh i) (by omega)
  rw [drop_all ((unhide HD).ok.sf i hi) l1] at h2
  refine ⟨rfl, D, v, h2, ?_⟩
  exact (Step.refl D w).setCells (unhide HD).own _ _

set_option maxHeartbeats 400000 in
theorem slotWrite_any (h : DiskIs w p D v A) (i : Nat) (hi : i < 2) (u : Value) (bs : List UInt8) (hu : Bytes w u bs) (hb : bs.length = 32) :
    Calls Try.prog 56 #[.pointer (some ⟨p, 6 + 64 * i, none⟩), u] w fun e w' => e = .returned (.tuple #[]) ∧ Now D p { A with sh := upd A.sh i bs } w w' := by
  have e1 : 6 + 64 * i + 32 = 38 + 64 * i := by omega
  have HT : Hid (w.there p (38 + 64 * i) (bs.map bv).length) := h.there fun j hj => (h.slh i hi).isSome j (by have := h.ok.sh i hi; simp only [List.length_map] at hj ⊢; omega)
  have HD := hide h
  clear h
  rcases hu with ⟨rfl, rfl⟩ | ⟨ad, c, rfl, _, _, hr⟩
  · simp at hb
  · have HR : Hid (∀ j x, (bs.map bv)[j]? = some x → w.cell? (ad.add j) = some x) := hr
    have HL : Hid ((bs.map bv).length = Nat.min bs.length 32) := by rw [List.length_map, hb]; rfl
    have HB := hide hb
    clear hr hb
    go_enter Try.func56, Try.ntmps56
    go_wp2_with (refine wpList_copy_mid rfl (.tmp 7) (.tmp 8) 25 25 rfl 5 Try.underlying25 infoByteSize p (38 + 64 * i) 32 32 ad bs.length c rfl rfl (bs.map bv) (unhide HL) (unhide HR) (unhide HT) (bv_one _) ?_)
    go_end0
    have h2 := (unhide HD).setShown i hi bs (by have := unhide HB; omega)
    rw [drop_all ((unhide HD).ok.sh i hi) (unhide HB)] at h2
    exact ⟨rfl, D, v, h2, (Step.refl D w).setCells (unhide HD).own _ _⟩

/-- Behind a crash of slot i that keeps k of what is shown. -/
def AD.crashSlot (A : AD) (i : Nat) (k : Int) : AD :=
  { A with sf := upd A.sf i ((A.sh i).take (keepN k 32) ++ (A.sf i).drop (keepN k 32)), sh := upd A.sh i ((A.sh i).take (keepN k 32) ++ (A.sf i).drop (keepN k 32)) }

set_option maxHeartbeats 400000 in
theorem slotCrash_any (h : DiskIs w p D v A) (i : Nat) (hi : i < 2) (k : Int) :
    Calls Try.prog 45 #[.pointer (some ⟨p, 6 + 64 * i, none⟩), .int .i64 k] w fun e w' => e = .returned (.tuple #[]) ∧ Now D p (A.crashSlot i k) w w' := by
  have e1 : 6 + 64 * i + 32 = 38 + 64 * i := by omega
  have l0 := h.ok.sf i hi
  have l1 := h.ok.sh i hi
  have hkl := keepN_le k 32
  have HK : Hid (min (max k 0) (32 : Int) = keepN k 32) := keepN_eq k 32
  unfold AD.crashSlot
  generalize keepN k 32 = t at *
  have hlt : ((A.sh i).take t).length = t := by rw [List.length_take]; omega
  have h2 := (h.drewN 1).setSafeSlot i hi ((A.sh i).take t) (by omega)
  rw [hlt] at h2
  obtain ⟨nb, hnb⟩ : ∃ nb, nb = (A.sh i).take t ++ (A.sf i).drop t := ⟨_, rfl⟩
  obtain ⟨cs, hcs⟩ : ∃ cs, cs = ((A.sh i).take t).map bv := ⟨_, rfl⟩
  have hln : nb.length = 32 := by rw [hnb, List.length_append, hlt, List.length_drop]; omega
  rw [← hnb, ← hcs] at h2
  rw [← hnb]
  have HT : Hid (w.drew.there p (6 + 64 * i) cs.length) := h.drew.there fun j hj => (h.slf i hi).isSome j (by rw [hcs] at hj; simp only [List.length_map] at hj ⊢; omega)
  have HR : Hid (∀ j x, cs[j]? = some x → w.drew.cell? ((⟨p, 38 + 64 * i, none⟩ : Addr).add j) = some x) := fun j x hx => by
    rw [Addr.add_mid]
    refine h.slh i hi j x ?_
    rw [hcs, List.map_take, List.getElem?_take] at hx
    split at hx
    · exact hx
    · cases hx
  have HL : Hid (cs.length = Nat.min t 32) := by rw [hcs, List.length_map, hlt]; show t = min t 32; omega
  have H1 : Hid (∀ u ∈ cs, u.oneCell' = true) := by rw [hcs]; exact bv_one _
  have HR2 : Hid ((w.drew.setCells p (6 + 64 * i) cs).rangeAt p (6 + 64 * i) (nb.map bv)) := by have h5 := h2.slf i hi; simp only [upd_same] at h5; exact h5
  have HI : Hid ((Try.prog.info? 65).map (·.size) = some (nb.map bv).length) := by rw [List.length_map, hln]; exact infoSlot
  have HI2 : Hid ((Try.prog.info? 65).map (·.size) = some (nb.map bv).toArray.size) := by rw [List.size_toArray]; exact HI
  have HT2 : Hid ((w.drew.setCells p (6 + 64 * i) cs).there p (38 + 64 * i) (nb.map bv).toArray.size) := h2.there fun j hj => (h2.slh i hi).isSome j (by simp only [List.size_toArray, List.length_map] at hj ⊢; omega)
  have H2 : Hid (DiskIs (w.drew.setCells p (6 + 64 * i) cs) p D v { A with sf := upd A.sf i nb }) := h2
  have HD := hide h
  have HLN := hide hln
  have ht0 : (0 : Int) ≤ (t : Int) := by omega
  have ht1 : (t : Int) ≤ 32 := by omega
  clear h hlt h2 hnb hcs hln
  go_enter Try.func45, Try.ntmps45
  go_wp2
  go_region_law (first
    | (refine step_copy_mid rfl (.tmp 7) (.tmp 13) 25 25 rfl 5 Try.underlying25 infoByteSize p (6 + 64 * i) 32 32 ⟨p, 38 + 64 * i, none⟩ t 32 (by simp [Act.eval, Act.put]) (by simp [Act.eval, Act.put]) cs (unhide HL) (unhide HR) (unhide HT) (unhide H1) ?_)
    | (go_simp; go_at_call 62; refine (between_any _ _ _).mono ?_; rintro e w' ⟨rfl, rfl⟩; rw [unhide HK]))
  go_wp2_with (first
    | refine wpList_load_mid rfl 65 (.tmp 18) rfl p (6 + 64 * i) rfl (nb.map bv) _ (unhide HR2) Try.underlying65 rfl (unhide HI) ?_
    | refine wpList_store_mid rfl 65 (.tmp 21) (.tmp 19) rfl p (38 + 64 * i) (nb.map bv).toArray rfl rfl (unhide HT2) (unhide HI2) (all_oneCell_toArray (bv_one _)) ?_)
  go_end0
  have h3 := (unhide H2).setShown i hi nb (by have := unhide HLN; omega)
  rw [drop_all ((unhide H2).ok.sh i hi) (unhide HLN)] at h3
  exact ⟨rfl, D, v, h3, (((Step.refl D w).drew).setCells (unhide HD).own _ _).setCells (unhide HD).own _ _⟩
end
end Go.Proofs.Ytoabpjdpdcpdlaa
