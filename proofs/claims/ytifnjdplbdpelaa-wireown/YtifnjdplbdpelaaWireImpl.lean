/- The structure of what package wire answers, of the landed code. No statement of the seat is proved here. -/
import Derived.Test.YtifnjdplbdpelaaWireImplG
import Derived.Test.YtifnjdplbdpelaaWireOk
namespace Go.Proofs.Ytifnjdplbdpelaa
open Go.RowKit

theorem wireOk : WireOk where
  size := fun n w hn => size_any n hn w
  num := fun u bs n w hn h hl => wNum_any u bs n hn w h hl
  text := fun u bs s w h hl hs => wText_any u bs s w h hl hs
  takeNum := fun a n c bs w h hl => by
    refine (takeNum_any a n c bs w h hl).mono ?_
    rintro e w' ⟨ht, hb⟩
    refine ⟨?_, hb⟩
    rcases ht with ⟨x, k, hr, rfl⟩ | ⟨hN, rfl⟩
    · refine .inl ⟨x, k, _, _, hr, (h.cut ?_).laterW hb, rfl⟩
      have := hr.le
      rw [(bytes_len h).1] at this
      exact this
    · exact .inr ⟨hN, rfl⟩
  takeText := fun a n c bs most w h hl hm => by
    refine (takeText_any a n c bs most w h hl hm).mono ?_
    rintro e w' ⟨ht, hb⟩
    refine ⟨?_, hb⟩
    rcases ht with ⟨s, k, hr, rfl⟩ | ⟨hN, rfl⟩
    · have h1 := hr.le
      rw [(bytes_len h).1] at h1
      have h2 := (h.cut (k := k) (by omega)).cut (k := s.length) (by omega)
      rw [List.drop_drop] at h2
      exact .inl ⟨s, k, _, _, hr, h2.laterW hb, rfl⟩
    · exact .inr ⟨hN, rfl⟩
end Go.Proofs.Ytifnjdplbdpelaa
