import Derived.Test.YthbbfjfekchdiaaXZUpdate2
import Derived.Test.YthbbfjfekchdiaaXZFetch
import Derived.Test.YthbbfjfekchdiaaXZCreate
import Derived.Test.YthbbfjfekchdiaaXZSort
import Derived.Test.YthbbfjfekchdiaaXZValues
import Derived.Test.YthbbfjfekchdiaaXZLeaf
import Derived.Test.YthbbfjfekchdiaaXKPick
import Derived.Test.YthbbfjfekchdiaaXZUnread
/-
  The program's contracts, together.
-/
namespace Go.Proofs.Ythbbfjfekchdiaa

theorem progOk : ProgOk ZRep where
  weak := fun h hs => h.weak hs
  lim := fun h => h.lim
  fr := fun h hf hn => h.fr hf hn
  check := fun c w => pcheck_any c w
  createNo := fun c w h => pcreate_no c w h
  create := fun c w h => zcreate_yes c w h
  config := fun p d In w h _ => zconfig_any p d In w h
  update := fun p now v l d In w h _ hr ho hl => (zupdate_any (hid sortOk) p now v l d In w h hr ho hl).mono fun _ _ ⟨a, b, c⟩ => ⟨a, b.weak fun _ x => .inl x, c⟩
  fetch := fun p now fr un d In w h _ => zfetch_any (hid sortOk) p now fr un d In w h
end Go.Proofs.Ythbbfjfekchdiaa
/-
  The program's contracts, all of them.
-/
namespace Go.Proofs.Ythbbfjfekchdiaa

theorem progOk2 : ProgOk2 ZRep where
  base := progOk
  al := fun h => ⟨h.ok, h.al⟩
  save := fun p d In w h => zsave_any p d In w h
  load := fun v b w h1 h2 h3 => zload_any v b w h1 h2 h3
  resize := fun p now c d In w h => zresize_any (hid sortOk) p now c d In w h
  diff := fun p q d o In Jn w h h2 => zdiff_any p q d o In Jn w h h2
end Go.Proofs.Ythbbfjfekchdiaa
/-
  Quiet, of this program.
-/
namespace Go.Proofs.Ythbbfjfekchdiaa

theorem quietProved : Rows.QuietSaid := quiet_of progOk2
end Go.Proofs.Ythbbfjfekchdiaa
